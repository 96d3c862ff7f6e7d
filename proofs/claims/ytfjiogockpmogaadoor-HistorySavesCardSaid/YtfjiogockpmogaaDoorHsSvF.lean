/-
  Walks: the document's May at any text, and lines.
-/
import Derived.Test.YtfjiogockpmogaaDoorHsSvA
import Derived.Test.YtfjiogockpmogaaDoorHsRAdd
namespace Go.Proofs.YtfjiogockpmogaaDoor
open Go.RowKit Go.Shelf Go.Sort
set_option linter.unusedVariables false
set_option linter.unusedSimpArgs false
set_option maxRecDepth 100000

theorem linesN_snoc (p : List UInt8) (c : UInt8) : ∀ acc, linesN acc (p ++ [c]) = if c = 10 then ((linesN acc p).1 ++ [(linesN acc p).2], []) else ((linesN acc p).1, (linesN acc p).2 ++ [c]) := by
  induction p with
  | nil => intro acc; rw [List.nil_append, linesN_cons]; split <;> simp [linesN]
  | cons d p ih =>
    intro acc
    rw [List.cons_append, linesN_cons, linesN_cons]
    by_cases hd : d = 10
    · rw [if_pos hd, if_pos hd, ih]
      split <;> simp
    · rw [if_neg hd, if_neg hd, ih]
theorem lns_snoc10 (p : List UInt8) : lnsOf (p ++ [10]) = lnsOf p ++ [rstOf p] ∧ rstOf (p ++ [10]) = [] := by
  unfold lnsOf rstOf; rw [linesN_snoc]; exact ⟨rfl, rfl⟩
theorem lns_snocC (p : List UInt8) {c : UInt8} (hc : c ≠ 10) : lnsOf (p ++ [c]) = lnsOf p ∧ rstOf (p ++ [c]) = rstOf p ++ [c] := by
  unfold lnsOf rstOf; rw [linesN_snoc, if_neg hc]; exact ⟨rfl, rfl⟩
theorem rst_len (p : List UInt8) : (rstOf p).length ≤ p.length := by
  have := congrArg List.length (jnl_lns p)
  rw [List.length_append] at this; omega
theorem rst_drop (p : List UInt8) : p.drop (p.length - (rstOf p).length) = rstOf p := by
  have h := jnl_lns p
  have hl := congrArg List.length h
  rw [List.length_append] at hl
  have e : p.length - (rstOf p).length = (jnl (lnsOf p)).length := by omega
  rw [e]
  have h2 : (jnl (lnsOf p) ++ rstOf p).drop (jnl (lnsOf p)).length = rstOf p := List.drop_left
  rw [h] at h2
  exact h2
set_option maxHeartbeats 2000000 in
theorem rmay2_any (t : List UInt8) (ht : t.length ≤ 1000) (w : World) :
    Calls Tryd.prog 43 #[.string ⟨t.toArray⟩] w fun e w' => e = .returned (.bool (okL t)) ∧ Below w.heap.size w w' := by
  have hl3 := flatB_le3 t
  have HF := Lib.hid (rflat_any ⟨t.toArray⟩ (by rw [size_of]; omega))
  have HC := Lib.hid (rcut_any ⟨t.toArray⟩ (by rw [size_of]; omega))
  have hcl : ((cls (rs t)).length : Int) ≤ 4096 := by have := cls_len t; omega
  simp only [List.toList_toArray] at HF HC
  have hok : okL t = (!(t == []) && flatB t == t) := rfl
  obtain ⟨y, hy⟩ : ∃ y, flatB t = y := ⟨_, rfl⟩
  rw [hy] at HF hok
  rw [hok]
  clear hok hy hl3
  by_cases he : t = []
  · subst he
    have hne : ((⟨([] : List UInt8).toArray⟩ : ByteArray)) = ⟨#[]⟩ := rfl
    go_enter Tryd.func43, Tryd.ntmps43
    go_wp2
    go_ret
    exact ⟨rfl, Below.refl _ _⟩
  · have hq : t.isEmpty = false := by cases t with | nil => exact absurd rfl he | cons a t => rfl
    have hv : (!(t == [])) = true := by cases t with | nil => exact absurd rfl he | cons a t => rfl
    rw [hv]
    clear he hv
    by_cases hyt : y = t
    · subst hyt
      have e : (true && y == y) = true := by simp
      rw [e]
      clear e
      go_enter Tryd.func43, Tryd.ntmps43
      go_wp2_with (first
        | (go_at_call 53; refine (HF.out w).mono ?_; rintro e w1 ⟨rfl, hb1⟩; have HB1 := Lib.hid hb1)
        | (go_at_call 58; refine (HC.out w1).mono ?_; rintro e w2 ⟨A2, c2, rfl, ho2, hb2⟩))
      go_ret
      exact ⟨rfl, HB1.out.trans (hb2.mono HB1.out.size)⟩
    · have hq1 : (y == t) = false := by simpa using hyt
      rw [hq1]
      go_enter Tryd.func43, Tryd.ntmps43
      go_wp2_with (go_at_call 53; refine (HF.out w).mono ?_; rintro e w1 ⟨rfl, hb1⟩; have HB1 := Lib.hid hb1)
      go_ret
      exact ⟨rfl, HB1.out⟩
set_option maxHeartbeats 8000000 in
theorem rlines14_any (s : List UInt8) (hs : s.length ≤ 1000000) (w : World) :
    Calls Tryd.prog 42 #[.string ⟨s.toArray⟩] w fun e w' => ∃ A c, e = .returned (.tuple #[.slice A (lnsOf s).length c, .bool (rstOf s == [])]) ∧ OR w' w.heap.size 9 A (lnsOf s).length c (sv (lnsOf s)) ∧ Below w.heap.size w w' := by
  obtain ⟨q, hq⟩ : ∃ q : ByteArray, q = ⟨s.toArray⟩ := ⟨_, rfl⟩
  have hqs : q.size = s.length := by rw [hq]; simp [ByteArray.size]
  rw [← hq]
  have HQ := Lib.hid hq
  have HQS := Lib.hid hqs
  have hb : q.size ≤ 1000000 := by omega
  clear hq hqs
  go_enter Tryd.func42, Tryd.ntmps42
  go_wp2_with (fail)
  go_loopw [4, 5, 6] (fun v4 v5 v6 wr => ∃ (k f n : Nat) (A : Option Addr) (c : Nat), v6 = .int .i64 k ∧ v5 = .int .i64 f ∧ v4 = .slice A n c ∧ k ≤ q.size ∧ f + (rstOf (s.take k)).length = k ∧ n = (lnsOf (s.take k)).length ∧ OR wr w.heap.size 9 A n c (sv (lnsOf (s.take k))) ∧ Below w.heap.size w wr) (fun _ _ v _ => q.size - (intOf v).toNat)
  case atStart => exact ⟨0, 0, 0, none, 0, rfl, rfl, rfl, by omega, by simp [rstOf, linesN], by simp [lnsOf, linesN], by rw [List.take_zero]; exact OR.none_ _ _ _, Below.refl _ _⟩
  case round =>
    obtain ⟨k, f, n, A, c, rfl, rfl, rfl, hk, hf, hn, hor, hbr⟩ := hrel
    have HOR := Lib.hid hor
    have HBr := Lib.hid hbr
    have HF := Lib.hid hf
    have HN := Lib.hid hn
    have hnl : n ≤ 1000000 := by rw [hn]; have := lns_count (s.take k); simp at this; omega
    have hfk : f ≤ k := by omega
    clear hor hbr hf hn
    by_cases hlt : k < q.size
    · have hki : (k : Int) < (q.size : Int) := by omega
      have hks : k < s.length := by have := HQS.out; omega
      have hsk : s.take (k + 1) = s.take k ++ [s[k]] := List.take_succ_eq_append_getElem hks
      have hqk : q[k] = s[k] := by
        have h1 := HQ.out
        subst h1
        rfl
      generalize s[k] = ch at hsk hqk
      have HSK := Lib.hid hsk
      clear hsk
      by_cases hch : ch = 10
      · subst hch
        have hst := lns_snoc10 (s.take k)
        have hE : q.extract f k = ⟨(rstOf (s.take k)).toArray⟩ := by
          refine bs_ext ?_
          rw [Lib.extract_data, HQ.out]
          have h1 := rst_drop (s.take k)
          rw [List.length_take, Nat.min_eq_left (by omega)] at h1
          rw [show k - (rstOf (s.take k)).length = f by have := HF.out; omega] at h1
          rw [List.drop_take] at h1
          exact h1
        have E : ∀ V, (Instr.slice 9 (.string q) (some (.int .i64 (f : Int))) (some (.int .i64 (k : Int))) none).run Tryd.prog V = .ok (.string ⟨(rstOf (s.take k)).toArray⟩) V := fun V => by
          rw [run_slice_string (w := V) 9 q .i64 .i64 f k Tryd.underlying9 (by omega) (by omega) (by omega)]
          simp only [Int.toNat_natCast]
          rw [hE]
        obtain ⟨A7, c7, w7, hrun, hO7, hg7, hat7⟩ := run_app Tryd.underlying27 str_info rfl (by omega) (wr.alloc (.cells #[.string ⟨(rstOf (s.take k)).toArray⟩] 9)) 27 w.heap.size A n c _ (HOR.out.alloc _) (some ⟨wr.heap.size, 0, none⟩) 1 1 [.string ⟨(rstOf (s.take k)).toArray⟩] (wr.heap.size + 1) (Sl.new wr #[.string ⟨(rstOf (s.take k)).toArray⟩] 9) rfl (fun e => by cases e) (by intro u hu; simp at hu; subst hu; rfl) (n + 1) rfl (by omega) (by have := HBr.out.size; simp; omega)
        have hb7 : Below w.heap.size w w7 := (HBr.out.alloc HBr.out.size _).grown hg7 (by have := HBr.out.size; simp; omega) (fun g hg => (HOR.out.blk_lt g hg).1)
        have hO8 : OR w7 w.heap.size 9 A7 (n + 1) c7 (sv (lnsOf (s.take (k + 1)))) := by rw [HSK.out, hst.1, sv_snoc]; exact hO7
        have HST := Lib.hid hst
        have HR := Lib.hid hrun
        have HO8 := Lib.hid hO8
        have HB7 := Lib.hid hb7
        clear hst hE hrun hO7 hg7 hat7 hb7 hO8
        generalize (⟨(rstOf (s.take k)).toArray⟩ : ByteArray) = rb at *
        go_wp2_with ((with_reducible refine at_dst 23 ?_); refine wpList_run 27 27 rfl (.tmp 17) (.tmp 22) rfl _ _ _ _ rfl rfl HR.out ?_)
        go_roundw
        case rel => exact ⟨k + 1, k + 1, n + 1, A7, c7, by go_num, by go_num, rfl, by omega, by rw [HSK.out, HST.out.2]; simp, by rw [HSK.out, HST.out.1, List.length_append, ← HN.out]; rfl, HO8.out, HB7.out⟩
        case measure => simp [intOf]; omega
      · have hst := lns_snocC (s.take k) hch
        have HST := Lib.hid hst
        have hci : ((ch.toNat : Int) == 10) = false := by
          have : ch.toNat ≠ 10 := fun e => hch (UInt8.toNat_inj.1 (by rw [e]; rfl))
          simp; omega
        clear hst hch
        go_wp2_with (fail)
        go_roundw
        case rel => exact ⟨k + 1, f, n, A, c, by go_num, rfl, rfl, by omega, by rw [HSK.out, HST.out.2, List.length_append]; have := HF.out; simp; omega, by rw [HSK.out, HST.out.1]; exact HN.out, by rw [HSK.out, HST.out.1]; exact HOR.out, HBr.out⟩
        case measure => simp [intOf]; omega
    · have hki : ¬ (k : Int) < (q.size : Int) := by omega
      have e : s.take k = s := List.take_of_length_le (by have := HQS.out; omega)
      have HE := Lib.hid e
      have hv : ((f : Int) == (q.size : Int)) = (rstOf s == []) := by
        have h1 := HF.out
        rw [e] at h1
        rw [Bool.eq_iff_iff]
        simp only [beq_iff_eq]
        constructor
        · intro h
          exact List.eq_nil_of_length_eq_zero (by omega)
        · intro h
          rw [h] at h1
          simp at h1; omega
      have HV := Lib.hid hv
      obtain ⟨vv, hvv⟩ : ∃ vv, ((f : Int) == (q.size : Int)) = vv := ⟨_, rfl⟩
      have HVV := Lib.hid hvv
      clear e hv
      go_wp2_with (fail)
      go_ret2
      have e2 : (rstOf s).isEmpty = vv := by rw [← HVV.out, HV.out]; cases rstOf s <;> rfl
      have e3 : (lnsOf s).length = n := by have h2 := HN.out; rw [HE.out] at h2; exact h2.symm
      have h1 := HOR.out
      rw [HE.out] at h1
      have H1 := Lib.hid h1
      clear h1
      first
        | exact ⟨A, c, by rw [e2, e3]; rfl, by rw [e3]; exact H1.out, HBr.out⟩
        | exact ⟨A, c, by rw [show (rstOf s == []) = vv from by rw [← e2]; cases rstOf s <;> rfl, e3]; rfl, by rw [e3]; exact H1.out, HBr.out⟩
end Go.Proofs.YtfjiogockpmogaaDoor
