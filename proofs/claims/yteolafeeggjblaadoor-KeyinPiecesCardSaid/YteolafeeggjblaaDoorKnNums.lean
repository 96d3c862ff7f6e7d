/-
  Walks: numbers.
-/
import Derived.Test.YteolafeeggjblaaDoorKnBeh
import Derived.Test.YteolafeeggjblaaDoorKnShelf
import Derived.Test.YteolafeeggjblaaDoorOwn
namespace Go.Proofs.YteolafeeggjblaaDoor
open Go.RowKit
set_option linter.unusedVariables false
set_option linter.unusedSimpArgs false

def cH (p : List UInt8) : List (List UInt8) → List (List UInt8)
  | [] => [p]
  | x :: xs => (p ++ x) :: xs
theorem cH_nil {X : List (List UInt8)} (h : X ≠ []) : cH [] X = X := by
  cases X with
  | nil => exact absurd rfl h
  | cons x xs => rfl
theorem splitK_ne (k : Nat) (l : List UInt8) : Lib.splitK [59] 0 k l ≠ [] := by
  cases k with
  | zero => simp [Lib.splitK]
  | succ k => unfold Lib.splitK; split <;> simp
theorem splitK_cons {c : UInt8} (hc : c ≠ 59) (k : Nat) (t : List UInt8) : Lib.splitK [59] 0 k (c :: t) = cH [c] (Lib.splitK [59] 0 k t) := by
  cases k with
  | zero => rfl
  | succ k =>
    have hb : (c == (59 : UInt8)) = false := by simpa using hc
    have hge := Lib.indexByte_ge t 59
    have h1 : Lib.index (c :: t) [59] = if Lib.indexByte t 59 == -1 then -1 else Lib.indexByte t 59 + 1 := by rw [Lib.index_one, Lib.indexByte, hb]; rfl
    have h2 := Lib.index_one t 59
    unfold Lib.splitK
    rw [h1, h2]
    by_cases hm : Lib.indexByte t 59 = -1
    · simp [hm, cH]
    · obtain ⟨i, hi⟩ : ∃ i : Nat, Lib.indexByte t 59 = i := ⟨(Lib.indexByte t 59).toNat, by omega⟩
      rw [hi]
      have e1 : ((i : Int) == -1) = false := by simp
      have e2 : ((i : Int) + 1 == -1) = false := by simp; omega
      have e3 : ((i : Int) + 1).toNat = i + 1 := by omega
      simp [e1, e2, e3, cH]
theorem semi_split : ∀ (l p : List UInt8), semi p l = cH p (Lib.splitK [59] 0 (Lib.count l [59]) l) := by
  intro l
  induction l with
  | nil => intro p; simp [semi, Lib.count_one, Lib.splitK, cH]
  | cons c t ih =>
    intro p
    by_cases hc : c = 59
    · subst hc
      have hi : Lib.index (59 :: t) [59] = 0 := by rw [Lib.index_one, Lib.indexByte]; rfl
      rw [Lib.count_cons_eq, Nat.add_comm, Lib.splitK, hi, semi, if_pos rfl, ih []]
      rw [cH_nil (splitK_ne _ _)]
      simp [cH]
    · rw [Lib.count_cons_ne _ _ _ hc, splitK_cons hc, semi, if_neg hc, ih (p ++ [c])]
      cases h : Lib.splitK [59] 0 (Lib.count t [59]) t with
      | nil => exact absurd h (splitK_ne _ _)
      | cons x xs => simp [cH]
theorem semi_len : ∀ (l p d : List UInt8), d ∈ semi p l → d.length ≤ p.length + l.length := by
  intro l
  induction l with
  | nil => intro p d h; simp [semi] at h; subst h; simp
  | cons c t ih =>
    intro p d h
    rw [semi] at h
    by_cases hc : c = 59
    · rw [if_pos hc, List.mem_cons] at h
      rcases h with rfl | h
      · simp
      · have := ih [] d h; simp at this ⊢; omega
    · rw [if_neg hc] at h
      have := ih _ d h
      simp at this ⊢
      omega
theorem semi_count : ∀ (l p : List UInt8), (semi p l).length ≤ l.length + 1 := by
  intro l
  induction l with
  | nil => intro p; simp [semi]
  | cons c t ih =>
    intro p
    rw [semi]
    by_cases hc : c = 59
    · rw [if_pos hc]; have := ih []; simp; omega
    · rw [if_neg hc]; have := ih (p ++ [c]); simp; omega
def strV (d : List UInt8) : Value := .string ⟨d.toArray⟩
theorem split_semi (l : List UInt8) (hl : l.length ≤ 1000000) (w : World) :
    Calls Tryd.prog 86 #[.string ⟨l.toArray⟩, .string ⟨#[59]⟩] w fun e w' =>
      e = .returned (.slice (some ⟨w.heap.size, 0, none⟩) (semi [] l).length (semi [] l).length) ∧ w' = w.alloc (.cells ((semi [] l).map strV).toArray 9) := by
  have hsz : (⟨l.toArray⟩ : ByteArray).size = l.length := by simp [ByteArray.size]
  refine (split_any ⟨l.toArray⟩ 59 w (by omega)).mono ?_
  rintro e w' ⟨rfl, rfl⟩
  have hd := Lib.splitB_data ⟨#[59]⟩ 0 (Lib.countB ⟨l.toArray⟩ ⟨#[59]⟩) ⟨l.toArray⟩
  have hlen := Lib.splitB_all ⟨#[59]⟩ (Nat.le_refl _) 0 _ ⟨l.toArray⟩ rfl
  have hs := semi_split l []
  rw [cH_nil (splitK_ne _ _)] at hs
  have e1 : (Lib.splitB ⟨#[59]⟩ 0 (Lib.countB ⟨l.toArray⟩ ⟨#[59]⟩) ⟨l.toArray⟩).map (·.data.toList) = semi [] l := by rw [hd, hs]
  have e2 : Lib.countB ⟨l.toArray⟩ ⟨#[59]⟩ + 1 = (semi [] l).length := by rw [← e1, List.length_map, hlen]
  have e3 : (Lib.splitB ⟨#[59]⟩ 0 (Lib.countB ⟨l.toArray⟩ ⟨#[59]⟩) ⟨l.toArray⟩).map Value.string = (semi [] l).map strV := by
    rw [← e1, List.map_map]
    rfl
  rw [e2, e3]
  exact ⟨rfl, rfl⟩

def i64w (l : List Int) : List Value := l.map (.int .i64)
theorem numsA_stop {acc : List Int} {d : List UInt8} {ds : List (List UInt8)} (h : numD d = none) : numsA acc (d :: ds) = [] := by rw [numsA, h]
theorem numsA_many {acc : List Int} {d : List UInt8} {ds : List (List UInt8)} {n : Int} (h : numD d = some n) (h2 : acc.length = 2) : numsA acc (d :: ds) = [] := by rw [numsA, h]; simp only; rw [if_pos h2]
theorem numsA_next {acc : List Int} {d : List UInt8} {ds : List (List UInt8)} {n : Int} (h : numD d = some n) (h2 : ¬ acc.length = 2) : numsA acc (d :: ds) = numsA (acc ++ [n]) ds := by rw [numsA, h]; simp only; rw [if_neg h2]

set_option maxRecDepth 100000 in
set_option maxHeartbeats 4000000 in
theorem numbers_any (l : List UInt8) (hl : l.length ≤ 100000) (w : World) :
    Calls Tryd.prog 76 #[.string ⟨l.toArray⟩] w fun e w' => ∃ (A : Option Addr) (n c : Nat), e = .returned (.slice A n c) ∧ n = (numsK l).length ∧ Sl w' w'.heap.size A (i64w (numsK l)) ∧ Below w.heap.size w w' := by
  have HQ := Lib.hid (split_semi l (by omega) w)
  have HL := Lib.hid (semi_len l [])
  obtain ⟨R, hR⟩ : ∃ R, R = numsK l := ⟨_, rfl⟩
  rw [← hR]
  unfold numsK at hR
  have HR := Lib.hid hR
  clear hR
  have hPl := semi_count l []
  generalize hP : semi [] l = P at HQ HL HR hPl
  clear hP
  obtain ⟨W1, hW1⟩ : ∃ W1, W1 = w.alloc (.cells (P.map strV).toArray 9) := ⟨_, rfl⟩
  have HC := Lib.hid (show ∀ k (hk : k < P.length), W1.cell? ⟨w.heap.size, k, none⟩ = some (.string ⟨P[k].toArray⟩) from by
    intro k hk
    rw [hW1]
    have := (Blk.new w 9 (P.map strV)).cell k
    rw [this, List.getElem?_map, List.getElem?_eq_getElem hk]
    rfl)
  have HB1 : Hid (Below w.heap.size w W1) := Lib.hid (by rw [hW1]; exact kbel _ _)
  have HZ1 : Hid (W1.heap.size = w.heap.size + 1) := Lib.hid (by rw [hW1]; simp)
  rw [← hW1] at HQ
  clear hW1
  go_enter Tryd.func76, Tryd.ntmps76
  go_wp2_with (go_at_call 86; refine HQ.out.mono ?_; rintro e w' ⟨rfl, rfl⟩)
  go_loopw [3, 11] (fun v3 v11 wr => ∃ (k m c : Nat) (A : Option Addr) (acc : List Int), v11 = .int .i64 (k : Int) ∧ v3 = .slice A m c ∧ k ≤ P.length ∧ m = acc.length ∧ acc.length ≤ 2 ∧ Hid (OR wr (w.heap.size + 1) 3 A m c (i64w acc)) ∧ Hid (R = numsA acc (P.drop k)) ∧ Hid (Below (w.heap.size + 1) w' wr)) (fun _ v11 _ => P.length - (intOf v11).toNat)
  case atStart => exact ⟨0, 0, 0, none, [], rfl, rfl, by omega, rfl, by simp, Lib.hid (OR.none_ _ _ _), Lib.hid (by rw [HR.out]; rfl), Lib.hid (Below.refl _ _)⟩
  case round =>
    obtain ⟨k, m, c, A, acc, rfl, rfl, hk, hm, hac, HO, HN, HB⟩ := hrel
    have hwz : w.heap.size + 1 ≤ wr.heap.size := by have := HB.out.size; have := HZ1.out; omega
    by_cases hlt : k < P.length
    · have hx : wr.cell? ⟨w.heap.size, k, none⟩ = some (.string ⟨P[k].toArray⟩) := (HB.out.cell (p := ⟨w.heap.size, k, none⟩) (Nat.lt_succ_self _)).trans (HC.out k hlt)
      have HD := Lib.hid (List.drop_eq_getElem_cons hlt)
      have hlen : P[k].length ≤ 1000000 := by have := HL.out P[k] (List.getElem_mem hlt); simp at this; omega
      have HF := Lib.hid (fun w => number_any P[k] hlen w)
      have hki : (k : Int) < (P.length : Int) := by omega
      generalize P[k] = d at hx HD HF
      cases hd : numD d with
      | none =>
        have HE : Hid (R = []) := Lib.hid (by rw [HN.out, HD.out, numsA_stop hd])
        rw [hd] at HF
        clear hd hlen
        go_wp2_with (go_at_call 87; refine (HF.out _).mono ?_; rintro e w2 ⟨rfl, rfl⟩)
        refine bodyPost_ret (v := .slice none 0 0) (by simp [results, Tryd.results76, go_sem]) rfl ⟨none, 0, 0, rfl, by rw [HE.out]; rfl, by rw [HE.out]; exact .inl rfl, ?_⟩
        exact HB1.out.trans (HB.out.mono (by omega))
      | some n =>
        by_cases h2 : acc.length = 2
        · have HE : Hid (R = []) := Lib.hid (by rw [HN.out, HD.out, numsA_many hd h2])
          rw [hd] at HF
          have hm2 : m = 2 := by omega
          subst hm2
          clear hd hlen hm h2
          go_wp2_with (go_at_call 87; refine (HF.out _).mono ?_; rintro e w2 ⟨rfl, rfl⟩)
          refine bodyPost_ret (v := .slice none 0 0) (by simp [results, Tryd.results76, go_sem]) rfl ⟨none, 0, 0, rfl, by rw [HE.out]; rfl, by rw [HE.out]; exact .inl rfl, ?_⟩
          exact HB1.out.trans (HB.out.mono (by omega))
        · have HE : Hid (R = numsA (acc ++ [n]) (P.drop (k + 1))) := Lib.hid (by rw [HN.out, HD.out, numsA_next hd h2])
          rw [hd] at HF
          have hm2 : ((m : Int) == 2) = false := by simp; omega
          have hm3 : m ≤ 1 := by omega
          have HM := Lib.hid hm
          clear hd hlen hm h2
          go_wp2_with (first
            | (go_at_call 87; refine (HF.out _).mono ?_; rintro e w2 ⟨rfl, rfl⟩)
            | ((with_reducible refine at_dst 30 ?_)
               refine wpList_app Tryd.underlying68 i64_info rfl (by omega) _ rfl (.tmp 27) (.tmp 29) rfl (w.heap.size + 1) A m c (i64w acc) rfl (HO.out.alloc _) (some ⟨wr.heap.size, 0, none⟩) 1 1 [.int .i64 n] (wr.heap.size + 1) rfl (Sl.new wr #[.int .i64 n] 3) rfl (fun h => by cases h) (by intro u hu; simp at hu; subst hu; rfl) (m + 1) rfl (by omega) (by simp; omega) ?_
               intro A' c' w3 ho3 hg3 _))
          go_roundw
          case rel =>
            have hHM := HM.out
            exact ⟨k + 1, m + 1, c', A', acc ++ [n], by go_num, rfl, by omega, by simp; omega, by simp; omega, Lib.hid (by rw [show i64w (acc ++ [n]) = i64w acc ++ [.int .i64 n] by simp [i64w]]; exact ho3), HE,
              Lib.hid ((HB.out.alloc (by have := HZ1.out; omega) _).grown hg3 (by simp; omega) (fun g hg => (HO.out.blk_lt g hg).1))⟩
          case measure => simp [intOf]; omega
    · have hki : ¬ (k : Int) < (P.length : Int) := by omega
      have HE : Hid (R = acc) := Lib.hid (by rw [HN.out, List.drop_eq_nil_of_le (by omega)]; rfl)
      have HM := Lib.hid hm
      clear hm
      go_wp2
      refine bodyPost_ret (v := .slice A m c) (by simp [results, Tryd.results76, go_sem]) rfl ?_
      exact ⟨A, m, ⟨c, rfl⟩, by rw [HE.out, HM.out], by rw [HE.out]; exact HO.out.sl, HB1.out.trans (HB.out.mono (by omega))⟩
end Go.Proofs.YteolafeeggjblaaDoor
