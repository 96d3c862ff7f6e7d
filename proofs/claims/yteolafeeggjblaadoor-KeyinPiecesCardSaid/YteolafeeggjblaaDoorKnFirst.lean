/-
  Walks: firstLettered, firstPlain.
-/
import Derived.Test.YteolafeeggjblaaDoorKnBeh
import Derived.Test.YteolafeeggjblaaDoorKnFns2
import Derived.Test.YteolafeeggjblaaDoorRnNext
import Derived.Test.YteolafeeggjblaaDoorRnBytes
import Derived.Test.YteolafeeggjblaaDoorRnAll
namespace Go.Proofs.YteolafeeggjblaaDoor
open Go.RowKit
set_option linter.unusedVariables false
set_option linter.unusedSimpArgs false

/-- what first and its like return -/
abbrev fEnd (r : Kv × Nat) : Ending := .returned (.tuple #[r.1.agg, .int .i64 r.2])

set_option maxRecDepth 100000 in
set_option maxHeartbeats 2000000 in
theorem lettered_any (s : List UInt8) (h2 : 2 ≤ s.length) (hl : s.length ≤ 1000000) (w : World) :
    Calls Tryd.prog 52 #[.string ⟨s.toArray⟩] w fun e w' => e = fEnd (leK s) ∧ Below w.heap.size w w' := by
  obtain ⟨b, hb⟩ : ∃ b : ByteArray, b = ⟨s.toArray⟩ := ⟨_, rfl⟩
  have hsz : b.size = s.length := by rw [hb]; simp [ByteArray.size]
  have HG := Lib.hid (show ∀ (k : Nat) (hk : k < s.length) (h : k < b.size), b[k] = s[k] by intro k hk h; subst hb; rfl)
  rw [← hb]
  clear hb
  by_cases h3 : s.length = 2
  · have HE : Hid (leK s = (Kv.no, 0)) := Lib.hid (by unfold leK; rw [List.getElem?_eq_none (by omega)])
    rw [HE.out]
    have hsz2 : b.size = 2 := by omega
    clear hsz h3 HG
    go_enter Tryd.func52, Tryd.ntmps52
    go_wp2_with (fail)
    refine bodyPost_ret (v := .tuple #[Kv.no.agg, .int .i64 0]) ?_ rfl ⟨rfl, kbel _ _⟩
    simp [results, Tryd.results52, go_sem]; rfl
  · have hlt : 2 < s.length := by omega
    have hg := HG.out 2 hlt (by omega)
    have HL : Hid (leK s = if kFin s[2] then (letK s[2], 3) else (Kv.no, 2)) := Lib.hid (by unfold leK; rw [List.getElem?_eq_getElem hlt])
    generalize s[2] = c at hg HL
    have hi : ¬ (2 : Int) = (b.size : Int) := by omega
    have hlt' : (2 : Int) < (b.size : Int) := by omega
    obtain ⟨W0, HW0, HB0, HZ⟩ := kzero w
    cases hf : kFin c with
    | true =>
      have HE : Hid (leK s = (letK c, 3)) := Lib.hid (by rw [HL.out, hf]; rfl)
      rw [HE.out]
      have HF := Lib.hid hf
      clear hf
      go_enter Tryd.func52, Tryd.ntmps52
      go_upto_region 1 with fail
      rw [← HW0.out]
      clear HW0
      go_wp2_with (first
        | (go_at_call 64; refine (isFinal_any _ _).mono ?_; rintro e w1 ⟨rfl, rfl⟩; rw [HF.out])
        | (go_at_call 66; refine (letterKey_any _ _).mono ?_; rintro e w1 ⟨rfl, hb1⟩; have HB1 := Lib.hid (kstep HB0.out hb1); have HZ1 := Lib.hid (HZ.out.below hb1 HZ.out.lt); clear hb1)
        | ((with_reducible refine at_store 2 ?_); refine wpList_store_blk rfl _ _ _ rfl rfl w.heap.size 0 _ Kv.no.cells (letK c).cells rfl rfl HZ1.out (by simp [Kv.len]) kv_size (Kv.one _) ?_; intro w9 hn9 hg9))
      exact bodyPost_ret (kresults_ct rfl rfl rfl (kwhole hn9) Tryd.underlying40 rfl kv_size) rfl ⟨rfl, kfin HB1.out hg9⟩
    | false =>
      have HE : Hid (leK s = (Kv.no, 2)) := Lib.hid (by rw [HL.out, hf]; rfl)
      rw [HE.out]
      have HF := Lib.hid hf
      clear hf
      go_enter Tryd.func52, Tryd.ntmps52
      go_wp2_with (go_at_call 64; refine (isFinal_any _ _).mono ?_; rintro e w1 ⟨rfl, rfl⟩; rw [HF.out])
      refine bodyPost_ret (v := .tuple #[Kv.no.agg, .int .i64 2]) ?_ rfl ⟨rfl, kbel _ _⟩
      simp [results, Tryd.results52, go_sem]; rfl

theorem plain_ctl {c : UInt8} {t : List UInt8} (h : c < 32 ∨ c = 127) : plainK (c :: t) = (ctlK c, 1) := by
  unfold plainK; simp only; rw [if_pos h]
theorem plain_more {c : UInt8} {t : List UInt8} (h : ¬ (c < 32 ∨ c = 127)) (hm : (nx (c :: t)).2.2 = true) : plainK (c :: t) = (Kv.no, 0) := by
  unfold plainK; simp only; rw [if_neg h, if_pos hm]
theorem plain_text {c : UInt8} {t : List UInt8} (h : ¬ (c < 32 ∨ c = 127)) (hm : (nx (c :: t)).2.2 = false) : plainK (c :: t) = ({ Kv.no with c := 1, s := enc (rfix (nx (c :: t)).1) }, (nx (c :: t)).2.1.toNat) := by
  unfold plainK; simp only; rw [if_neg h, if_neg (by rw [hm]; decide)]

set_option maxRecDepth 100000 in
set_option maxHeartbeats 4000000 in
theorem plain_c (c : UInt8) (t : List UInt8) (hl : t.length ≤ 100000) (hc : c < 32 ∨ c = 127) (K : Kv) (HQ : Hid (∀ w, Calls Tryd.prog 60 #[.int .u8 c.toNat] w fun e w' => e = .returned K.agg ∧ Below w.heap.size w w')) (w : World) :
    Calls Tryd.prog 50 #[.string ⟨(c :: t).toArray⟩] w fun e w' => e = fEnd (K, 1) ∧ Below w.heap.size w w' := by
  obtain ⟨b, hb⟩ : ∃ b : ByteArray, b = ⟨(c :: t).toArray⟩ := ⟨_, rfl⟩
  have hsz : b.size = t.length + 1 := by rw [hb]; simp [ByteArray.size]
  have hg : b[0]'(by omega) = c := by subst hb; rfl
  have hlt' : (0 : Int) < (b.size : Int) := by omega
  have hbL : b.data.toList = c :: t := by rw [hb]
  rw [← hb]
  clear hb
  have hbd := kbd c
  have hp0 : 0 ≤ (c.toNat : Int) := hbd.1
  obtain ⟨W0, HW0, HB0, HZ⟩ := kzero w
  rcases hc with h | rfl
  · have h1 : (c.toNat : Int) < 32 := by have := UInt8.lt_iff_toNat_lt.1 h; simp at this; omega
    clear h hbL hbd
    go_enter Tryd.func50, Tryd.ntmps50
    go_upto_region 1 with fail
    rw [← HW0.out]
    clear HW0
    go_wp2_with (first
      | (go_at_call 60; refine (HQ.out _).mono ?_; rintro e w1 ⟨rfl, hb1⟩; have HB1 := Lib.hid (kstep HB0.out hb1); have HZ1 := Lib.hid (HZ.out.below hb1 HZ.out.lt); clear hb1)
      | ((with_reducible refine at_store 2 ?_); refine wpList_store_blk rfl _ _ _ rfl rfl w.heap.size 0 _ Kv.no.cells K.cells rfl rfl HZ1.out (by simp [Kv.len]) kv_size (Kv.one _) ?_; intro w9 hn9 hg9))
    exact bodyPost_ret (kresults_ct rfl rfl rfl (kwhole hn9) Tryd.underlying40 rfl kv_size) rfl ⟨rfl, kfin HB1.out hg9⟩
  · have e1 : (((127 : UInt8).toNat : Nat) : Int) = 127 := rfl
    rw [e1] at HQ
    clear e1 hbL hbd hp0
    go_enter Tryd.func50, Tryd.ntmps50
    go_upto_region 1 with fail
    rw [← HW0.out]
    clear HW0
    go_wp2_with (first
      | (go_at_call 60; refine (HQ.out _).mono ?_; rintro e w1 ⟨rfl, hb1⟩; have HB1 := Lib.hid (kstep HB0.out hb1); have HZ1 := Lib.hid (HZ.out.below hb1 HZ.out.lt); clear hb1)
      | ((with_reducible refine at_store 2 ?_); refine wpList_store_blk rfl _ _ _ rfl rfl w.heap.size 0 _ Kv.no.cells K.cells rfl rfl HZ1.out (by simp [Kv.len]) kv_size (Kv.one _) ?_; intro w9 hn9 hg9))
    exact bodyPost_ret (kresults_ct rfl rfl rfl (kwhole hn9) Tryd.underlying40 rfl kv_size) rfl ⟨rfl, kfin HB1.out hg9⟩
set_option maxRecDepth 100000 in
set_option maxHeartbeats 4000000 in
theorem plain_m (c : UInt8) (t : List UInt8) (hl : t.length ≤ 100000) (hc : ¬ (c < 32 ∨ c = 127)) (r n : Int) (hn : nx (c :: t) = (r, n, true)) (w : World) :
    Calls Tryd.prog 50 #[.string ⟨(c :: t).toArray⟩] w fun e w' => e = fEnd (Kv.no, 0) ∧ Below w.heap.size w w' := by
  obtain ⟨b, hb⟩ : ∃ b : ByteArray, b = ⟨(c :: t).toArray⟩ := ⟨_, rfl⟩
  have hsz : b.size = t.length + 1 := by rw [hb]; simp [ByteArray.size]
  have hg : b[0]'(by omega) = c := by subst hb; rfl
  have hlt' : (0 : Int) < (b.size : Int) := by omega
  have hbL : b.data.toList = c :: t := by rw [hb]
  rw [← hb]
  clear hb
  have hbd := kbd c
  have hp0 : 0 ≤ (c.toNat : Int) := hbd.1
  obtain ⟨W0, HW0, HB0, HZ⟩ := kzero w
  have h1 : ¬ (c.toNat : Int) < 32 := by
    intro h; exact hc (.inl (UInt8.lt_iff_toNat_lt.2 (by simp; omega)))
  have h2 : ((c.toNat : Int) == 127) = false := by
    simp
    intro h; exact hc (.inr ((u8_of c 127 (by omega)).1 (by omega)))
  obtain ⟨cp, fr, hcv, hge, hmx⟩ := run_bytes_str W0 b
  have hSl := sl_bytesRow W0.drew b cp 5 fr
  rw [hbL] at hSl
  rw [hsz] at hcv
  have HS := Lib.hid hSl
  have HW1 : Hid (Below W0.heap.size W0 (W0.drew.alloc (.cells (bytesRow b cp) 5 fr))) := Lib.hid (((Below.refl _ _).drew).alloc (Nat.le_refl _) _)
  generalize W0.drew.alloc (.cells (bytesRow b cp) 5 fr) = W1 at hcv hSl HS HW1
  have HNX := Lib.hid (next_any _ (t.length + 1) cp (c :: t) _ W1 rfl (by simp; omega) HS.out)
  clear hc hbL hSl hge hmx hbd HS
  rw [hn] at HNX
  clear hn
  go_enter Tryd.func50, Tryd.ntmps50
  go_upto_region 1 with fail
  rw [← HW0.out]
  clear HW0
  go_wp2_with (first
    | (go_at_call 61; refine HNX.out.mono ?_; rintro e w1 ⟨rfl, hb1⟩; have HB1 := Lib.hid (kstep (kstep HB0.out HW1.out) hb1); have HZ1 := Lib.hid ((HZ.out.below HW1.out HZ.out.lt).below hb1 (HZ.out.below HW1.out HZ.out.lt).lt); clear hb1; unfold nv)
    | ((with_reducible refine at_store 2 ?_); refine wpList_store_blk rfl _ _ _ rfl rfl w.heap.size 0 _ Kv.no.cells Kv.no.cells rfl rfl HZ1.out (by simp [Kv.len]) kv_size (Kv.one _) ?_; intro w9 hn9 hg9))
  exact bodyPost_ret (kresults_ct rfl rfl rfl (kwhole hn9) Tryd.underlying40 rfl kv_size) rfl ⟨rfl, kfin HB1.out hg9⟩
set_option maxRecDepth 100000 in
set_option maxHeartbeats 4000000 in
theorem plain_t (c : UInt8) (t : List UInt8) (hl : t.length ≤ 100000) (hc : ¬ (c < 32 ∨ c = 127)) (r : Int) (n : Nat) (hn : nx (c :: t) = (r, (n : Int), false)) (E : List UInt8)
    (HY : Hid (∀ w, Calls Tryd.prog 62 #[.int .i32 r] w fun e w' => e = .returned (.slice (some ⟨w.heap.size, 0, none⟩) E.length E.length) ∧ w' = w.alloc (.cells (bv E).toArray 5))) (w : World) :
    Calls Tryd.prog 50 #[.string ⟨(c :: t).toArray⟩] w fun e w' => e = fEnd ({ Kv.no with c := 1, s := E }, n) ∧ Below w.heap.size w w' := by
  obtain ⟨b, hb⟩ : ∃ b : ByteArray, b = ⟨(c :: t).toArray⟩ := ⟨_, rfl⟩
  have hsz : b.size = t.length + 1 := by rw [hb]; simp [ByteArray.size]
  have hg : b[0]'(by omega) = c := by subst hb; rfl
  have hlt' : (0 : Int) < (b.size : Int) := by omega
  have hbL : b.data.toList = c :: t := by rw [hb]
  rw [← hb]
  clear hb
  have hbd := kbd c
  have hp0 : 0 ≤ (c.toNat : Int) := hbd.1
  obtain ⟨W0, HW0, HB0, HZ⟩ := kzero w
  have h1 : ¬ (c.toNat : Int) < 32 := by
    intro h; exact hc (.inl (UInt8.lt_iff_toNat_lt.2 (by simp; omega)))
  have h2 : ((c.toNat : Int) == 127) = false := by
    simp
    intro h; exact hc (.inr ((u8_of c 127 (by omega)).1 (by omega)))
  obtain ⟨cp, fr, hcv, hge, hmx⟩ := run_bytes_str W0 b
  have hSl := sl_bytesRow W0.drew b cp 5 fr
  rw [hbL] at hSl
  rw [hsz] at hcv
  have HS := Lib.hid hSl
  have HW1 : Hid (Below W0.heap.size W0 (W0.drew.alloc (.cells (bytesRow b cp) 5 fr))) := Lib.hid (((Below.refl _ _).drew).alloc (Nat.le_refl _) _)
  generalize W0.drew.alloc (.cells (bytesRow b cp) 5 fr) = W1 at hcv hSl HS HW1
  have HNX := Lib.hid (next_any _ (t.length + 1) cp (c :: t) _ W1 rfl (by simp; omega) HS.out)
  clear hc hbL hSl hge hmx hbd HS
  rw [hn] at HNX
  clear hn
  go_enter Tryd.func50, Tryd.ntmps50
  go_upto_region 1 with fail
  rw [← HW0.out]
  clear HW0
  go_wp2_with (first
    | (go_at_call 61; refine HNX.out.mono ?_; rintro e w1 ⟨rfl, hb1⟩; have HB1 := Lib.hid (kstep (kstep HB0.out HW1.out) hb1); have HZ1 := Lib.hid ((HZ.out.below HW1.out HZ.out.lt).below hb1 (HZ.out.below HW1.out HZ.out.lt).lt); clear hb1; unfold nv)
    | (go_at_call 62; refine (HY.out _).mono ?_; rintro e w2 ⟨rfl, hw2⟩; have hcv2 : Sem.run Tryd.prog (Go.convert 22 9 (.slice (some ⟨w1.heap.size, 0, none⟩) E.length E.length)) w2 = .ok (.string ⟨E.toArray⟩) w2 := (by rw [hw2]; exact run_str_sl _ (w1.heap.size + 1) _ _ _ E (Sl.new _ _ _) rfl); have HB2 : Hid (Below w.heap.size w w2) := Lib.hid (by rw [hw2]; exact HB1.out.alloc HB1.out.size _); have HZ2 : Hid (Blk w2 w.heap.size 40 Kv.no.cells) := Lib.hid (by rw [hw2]; exact HZ1.out.alloc _); clear hw2)
    | ((with_reducible refine at_store 2 ?_); refine wpList_store_blk rfl _ _ _ rfl rfl w.heap.size 0 _ Kv.no.cells (Kv.cells { Kv.no with c := 1, s := E }) rfl rfl HZ2.out (by simp [Kv.len]) kv_size (Kv.one _) ?_; intro w9 hn9 hg9))
  exact bodyPost_ret (kresults_ct rfl rfl rfl (kwhole hn9) Tryd.underlying40 rfl kv_size) rfl ⟨rfl, kfin HB2.out hg9⟩
theorem plain_any (c : UInt8) (t : List UInt8) (hl : t.length ≤ 100000) (w : World) :
    Calls Tryd.prog 50 #[.string ⟨(c :: t).toArray⟩] w fun e w' => e = fEnd (plainK (c :: t)) ∧ Below w.heap.size w w' := by
  by_cases hc : c < 32 ∨ c = 127
  · rw [plain_ctl hc]
    exact plain_c c t hl hc _ (Lib.hid (control_any c hc)) w
  · cases hm : (nx (c :: t)).2.2 with
    | true =>
      rw [plain_more hc hm]
      exact plain_m c t hl hc _ _ (by rw [← hm]) w
    | false =>
      rw [plain_text hc hm]
      have h1 := nx_n (c :: t) hm
      exact plain_t c t hl hc _ _ (by rw [Int.toNat_of_nonneg (by omega), ← hm]) _ (Lib.hid (bytes_any _)) w
end Go.Proofs.YteolafeeggjblaaDoor
