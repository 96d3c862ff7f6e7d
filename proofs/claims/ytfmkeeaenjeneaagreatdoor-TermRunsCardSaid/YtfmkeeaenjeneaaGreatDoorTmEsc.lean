/-
  Walks: execute, put together; takeEscape.
-/
import Derived.Test.YtfmkeeaenjeneaaGreatDoorTmExecM
import Derived.Test.YtfmkeeaenjeneaaGreatDoorGbT2
namespace Go.Proofs.YtfmkeeaenjeneaaGreatDoor
open Go.RowKit Go.Shelf Go.Sort
set_option linter.unusedVariables false
set_option linter.unusedSimpArgs false

def escT (T : TS) (B : List UInt8) : TS :=
  if (cutE B).1 = 0 then T
  else if (cutE B).2 then execT { T with joins := false } ((B.take ((cutE B).1 - 1)).drop 2) (B.getD ((cutE B).1 - 1) 0) else { T with joins := false }

section
variable {w : World} {lo t g rb : Nat} {bs : List Nat} {T : TS} {B : List UInt8}
theorem TmAt.byte (h : TmAt w lo t g rb bs T B) (j : Nat) (hj : j < B.length) : w.cell? ⟨t, 17 + j, none⟩ = some (.int .u8 B[j].toNat) := by
  rcases h.bytes with e | ⟨b', o', he, _, hc⟩
  · exfalso
    have := congrArg List.length e
    rw [bv_length] at this
    simp at this
    rw [this] at hj
    simp at hj
  · injection he with he
    injection he with h1 h2
    subst h1; subst h2
    exact hc j _ (bv_get hj)
theorem exec_any (h : TmAt w lo t g rb bs T B) (hbase : Base w lo) (L : List UInt8) (hL : L.length ≤ 29) (h2 : 2 + L.length ≤ B.length) (h3 : ∀ j, j < L.length → B[2 + j]? = L[j]?) (f : UInt8) :
    Calls Tryz.prog 70 #[.pointer (some ⟨t, 0, none⟩), .slice (some ⟨t, 19, none⟩) L.length 30, .int .u8 f.toNat] w fun e w' => e = .returned (.tuple #[]) ∧ TmStep w lo t g rb bs (execT T L f) B w' := by
  cases L with
  | nil =>
    by_cases hf : f = 109
    · subst hf
      exact exec_n_sty h hbase (by simp) (.inl rfl)
    · have e : execT T [] f = plainT T ((numsT []).getD 0 0) ((numsT []).getD 1 0) f := by
        unfold execT
        simp [areN, hf]
      rw [e]
      exact exec_n_plain h hbase (by simp) (.inl rfl) f hf
  | cons c l =>
    have hP : Piece t (some ⟨t, 19, none⟩) (c :: l) B := .inr ⟨2, rfl, h2, h3⟩
    have hC : ∀ W, Below w.heap.size w W → W.cell? ⟨t, 19, none⟩ = some (.int .u8 c.toNat) := fun W hW => by
      refine (hW.cell (p := ⟨t, 19, none⟩) h.lt).trans ?_
      have h0 := h3 0 (by simp)
      have hb : 2 < B.length := by simp at h2; omega
      rw [h.byte 2 hb]
      rw [Nat.add_zero, List.getElem?_eq_getElem hb] at h0
      simp at h0
      rw [h0]
    by_cases hc : c = 63
    · subst hc
      have hP' : Piece t (some ⟨t, 20, none⟩) l B := Piece.tail (k := 2) h2 h3
      cases hA : areN l
      · have e : execT T (63 :: l) f = T := by unfold execT; simp [hA]
        rw [e]
        exact exec_q_no h hbase l (by simp at hL; omega) hP' hC f hA
      · have e : execT T (63 :: l) f = modesT T (numsT l) f := by unfold execT; simp [hA]
        rw [e]
        exact exec_q_yes h hbase l (by simp at hL; omega) hP' hC f hA
    · cases hA : areN (c :: l)
      · have e : execT T (c :: l) f = T := by unfold execT; simp [hA, hc]
        rw [e]
        exact exec_c_no h hbase c l hc (by omega) hP hC f hA
      · by_cases hf : f = 109
        · subst hf
          have e : execT T (c :: l) 109 = { T with y := (numsT (c :: l)).foldl styT T.y } := by unfold execT; simp [hA, hc]
          rw [e]
          exact exec_c_sty h hbase c l hc (by omega) hP hC hA
        · have e : execT T (c :: l) f = plainT T ((numsT (c :: l)).getD 0 0) ((numsT (c :: l)).getD 1 0) f := by unfold execT; simp [hA, hc, hf]
          rw [e]
          exact exec_c_plain h hbase c l hc (by omega) hP hC f hf hA

set_option maxRecDepth 100000 in
set_option maxHeartbeats 8000000 in
theorem escape_any (h : TmAt w lo t g rb bs T B) (hbase : Base w lo) (hB : 1 ≤ B.length) :
    Calls Tryz.prog 50 #[.pointer (some ⟨t, 0, none⟩), .slice (some ⟨t, 17, none⟩) B.length 32] w fun e w' => e = .returned (.int .i64 (cutE B).1) ∧ TmStep w lo t g rb bs (escT T B) B w' := by
  have hle := cutE_le B
  have hb32 := h.b32
  have HCU := Lib.hid (cutE_any B hB hb32 (some ⟨t, 17, none⟩) B.length 32 rfl w _ h.bytes)
  obtain ⟨xs, hx1, hx2, hx3⟩ := h.blk
  have HX1 := Lib.hid hx1
  have HX2 := Lib.hid hx2
  have HX3 := Lib.hid hx3
  have H := Lib.hid h
  have HBS := Lib.hid hbase
  have HTM : Hid (∀ w1, w.grownBy w1 (some t) → Blk w1 t 63 ((tmc t g T xs B.length).set 16 (.bool false)) → TmAt w1 lo t g rb bs { T with joins := false } B ∧ Base w1 lo) := Lib.hid (fun w1 hg hb =>
    ⟨H.out.put (T' := { T with joins := false }) (chg_one hg) HX1.out HX2.out H.out.b32 hb rfl rfl H.out.row H.out.col, HBS.out.chg (chg_one hg) (fun k hk => by have e' : k = t := hk; rw [e']; exact H.out.lot)⟩)
  by_cases h0 : (cutE B).1 = 0
  · have e : escT T B = T := if_pos h0
    rw [e]
    rw [h0] at HCU ⊢
    clear e h0 hle h hbase hx1 hx2 hx3
    go_enter Tryz.func50, Tryz.ntmps50
    go_wp2_with (go_at_call 69; refine HCU.out.mono ?_; rintro e w' ⟨rfl, rfl⟩)
    go_ret
    exact ⟨rfl, TmStep.refl H.out⟩
  cases hf : (cutE B).2
  · have e : escT T B = { T with joins := false } := by unfold escT; rw [if_neg h0, hf]; rfl
    rw [e]
    rw [hf] at HCU
    have hne : (((cutE B).1 : Int) == 0) = false := by simp; omega
    generalize (cutE B).1 = n at HCU hle hne ⊢
    clear e h0 h hbase hx1 hx2 hx3 hf
    go_enter Tryz.func50, Tryz.ntmps50
    go_wp2_with (first
      | (go_at_call 69; refine HCU.out.mono ?_; rintro e w' ⟨rfl, rfl⟩)
      | ((with_reducible refine at_store 17 ?_); refine wpList_store_cell rfl _ _ _ rfl rfl t 16 _ (tmc t g T xs B.length) (.bool false) rfl rfl HX3.out (by simp [tmc, stc]) (by kernel_rfl) rfl ?_; intro w1 hn1 hg1; have H1 := Lib.hid (HTM.out w1 hg1 hn1); have HN1 := Lib.hid hn1; have HG1 := Lib.hid hg1; clear hn1 hg1))
    go_ret
    exact ⟨rfl, H.out.wrote (chg_one HG1.out) HX1.out HX2.out H.out.b32 HN1.out rfl rfl H.out.row H.out.col⟩
  · have hlen : 2 ≤ B.length := by
      rcases Nat.lt_or_ge 1 B.length with h' | h'
      · omega
      · unfold cutE at hf
        rw [List.getElem?_eq_none h'] at hf
        cases hf
    have hc3 : 3 ≤ (cutE B).1 := by
      unfold cutE at hf ⊢
      rw [List.getElem?_eq_getElem (show 1 < B.length by omega)] at hf ⊢
      simp only at hf ⊢
      by_cases h91 : B[1] = 91
      · rw [if_pos h91] at hf ⊢
        exact (cutS_full B hlen hf).1
      · rw [if_neg h91] at hf
        split at hf <;> cases hf
    obtain ⟨m, hm⟩ : ∃ m, (cutE B).1 = m + 3 := ⟨(cutE B).1 - 3, by omega⟩
    have e : escT T B = execT { T with joins := false } ((B.take (m + 2)).drop 2) (B.getD (m + 2) 0) := by
      unfold escT; rw [if_neg h0, hf, hm]; rfl
    rw [e]
    rw [hf] at HCU
    rw [hm] at HCU hle ⊢
    have hmB : m + 2 < B.length := by omega
    obtain ⟨L, hL⟩ : ∃ L, L = (B.take (m + 2)).drop 2 := ⟨_, rfl⟩
    have hLl : L.length = m := by rw [hL, List.length_drop, List.length_take]; omega
    have hL3 : ∀ j, j < L.length → B[2 + j]? = L[j]? := fun j hj => by
      rw [hL, List.getElem?_drop, List.getElem?_take, if_pos (by omega)]
    obtain ⟨F, hF⟩ : ∃ F, F = B.getD (m + 2) 0 := ⟨_, rfl⟩
    have hFc : B[m + 2] = F := by rw [hF, List.getD_eq_getElem?_getD, List.getElem?_eq_getElem hmB]; rfl
    rw [← hL, ← hF]
    have HEX : Hid (∀ w1, TmAt w1 lo t g rb bs { T with joins := false } B ∧ Base w1 lo → ∀ w2, Below w1.heap.size w1 w2 → Calls Tryz.prog 70 #[.pointer (some ⟨t, 0, none⟩), .slice (some ⟨t, 19, none⟩) m 30, .int .u8 F.toNat] w2 fun e w' => e = .returned (.tuple #[]) ∧ TmStep w1 lo t g rb bs (execT { T with joins := false } L F) B w') := Lib.hid (fun w1 hw1 w2 hw2 => by
      have := exec_any (hw1.1.below hw2) (hw1.2.below hw2) L (by omega) (by omega) hL3 F
      rw [hLl] at this
      exact this.mono fun e w' ⟨he, hs⟩ => ⟨he, TmStep.bel_then hw2 hs⟩)
    have HBC : Hid (∀ w1, TmAt w1 lo t g rb bs { T with joins := false } B ∧ Base w1 lo → w1.cell? ⟨t, 17 + (m + 2), none⟩ = some (.int .u8 F.toNat)) := Lib.hid (fun w1 hw1 => by rw [hw1.1.byte _ hmB, hFc])
    have m1 : (m : Int) + 3 ≤ 32 := by omega
    have m2 : (m : Int) + 3 ≤ (B.length : Int) := by omega
    have hne : ((m : Int) + 3 == 0) = false := by simp; omega
    clear e h0 h hbase hx1 hx2 hx3 hf hm hL hLl hL3 hF hFc hc3 hlen hle
    go_enter Tryz.func50, Tryz.ntmps50
    go_wp2_with (first
      | (go_at_call 69; refine HCU.out.mono ?_; rintro e w' ⟨rfl, rfl⟩)
      | ((with_reducible refine at_store 17 ?_); refine wpList_store_cell rfl _ _ _ rfl rfl t 16 _ (tmc t g T xs B.length) (.bool false) rfl rfl HX3.out (by simp [tmc, stc]) (by kernel_rfl) rfl ?_; intro w1 hn1 hg1; have H1 := Lib.hid (HTM.out w1 hg1 hn1); have HN1 := Lib.hid hn1; have HG1 := Lib.hid hg1; clear hn1 hg1))
    have kb := cell_regrown (HBC.out w1 H1.out)
    have HE1 : Hid (∀ d os, Calls Tryz.prog 70 #[.pointer (some ⟨t, 0, none⟩), .slice (some ⟨t, 19, none⟩) m 30, .int .u8 F.toNat] (grow (redrawn w1 d) os) fun e w' => e = .returned (.tuple #[]) ∧ TmStep w1 lo t g rb bs (execT { T with joins := false } L F) B w') := Lib.hid (fun d os => HEX.out w1 H1.out _ (below_regrown w1 d os))
    have wr : IntKind.i64.wrap ((m : Int) + 3 - 1) = (m : Int) + 2 := by rw [IntWalk.i64_in _ (by omega)]; omega
    have tn : ((m : Int) + 2).toNat = m + 2 := by omega
    refine wp_region_below_tail 10 (by kernel_rfl) (by kernel_rfl) ?_
    simp only [List.take_succ_cons, List.take_zero, List.drop_succ_cons, List.drop_zero]
    repeat (first
      | go_big_quiet_step (fail)
      | quiet_step (fail))
    refine wpQuiet_nil ?_
    intro _ hw'
    obtain ⟨⟨dq, osq⟩, hw''⟩ := hw'
    subst hw''
    clear kb
    go_wp2_with (go_at_call 70; refine (HE1.out _ _).mono ?_; rintro e w5 ⟨rfl, hp5⟩)
    go_ret
    exact ⟨rfl, TmStep.trans (fun _ h => .inl h) (own_t (chg_one HG1.out)) hp5⟩
end
end Go.Proofs.YtfmkeeaenjeneaaGreatDoor
