/-
  Walks: the reference's Runes.
-/
import Derived.Test.YtmgakdbcgdhpaaaDoorOwn
import Derived.Test.YtmgakdbcgdhpaaaDoorRnRNext
import Derived.Test.YtmgakdbcgdhpaaaDoorRnAllM
namespace Go.Proofs.YtmgakdbcgdhpaaaDoor
open Go.RowKit
set_option linter.unusedVariables false

def rv (xs : List (Nat × Int)) : List Value := xs.map fun x => .int .i32 x.2
def av (xs : List (Nat × Int)) : List Value := xs.map fun x => .int .i64 x.1
theorem rnsAt_le (l : List UInt8) : ∀ (f a : Nat) (m : List UInt8), (rns f a m).length ≤ f := by
  intro f
  induction f with
  | zero => intro a m; simp [rns]
  | succ f ih =>
    intro a m
    rw [rns]
    split
    · simp
    · have := ih (a + (stp m).2) (m.drop (stp m).2)
      simp; omega
theorem rnsOf_le (l : List UInt8) : (rnsOf l).length ≤ l.length := rnsAt_le l _ _ _

theorem add_plain (b off k : Nat) : (some (⟨b, off, none⟩ : Addr)).map (·.add k) = some ⟨b, off + k, none⟩ := by
  by_cases h : k = 0 <;> simp [Addr.add, h]

set_option maxRecDepth 100000 in
set_option maxHeartbeats 2000000 in
theorem runes_any (A : Option Addr) (n cap : Nat) (l : List UInt8) (w : World) (hn : n = l.length) (hm : l.length ≤ 100000) (hcap : n ≤ cap) (hcm : cap ≤ maxLen) (hS : Sl w w.heap.size A (bv l)) :
    Calls Tryd.prog 56 #[.slice A n cap] w fun e w' => ∃ A1 c1 A2 c2, e = .returned (.tuple #[.slice A1 (rnsOf l).length c1, .slice A2 (rnsOf l).length c2]) ∧
      OR w' w.heap.size 21 A1 (rnsOf l).length c1 (rv (rnsOf l)) ∧ OR w' w.heap.size 3 A2 (rnsOf l).length c2 (av (rnsOf l)) ∧ Below w.heap.size w w' := by
  subst hn
  have HS := Lib.hid hS
  have hle := rnsOf_le l
  generalize hR : rnsOf l = R at hle
  have HR := Lib.hid hR
  unfold maxLen at hcm
  clear hS hR
  go_enter Tryd.func56, Tryd.ntmps56
  go_wp2
  go_loopw [4, 5, 6] (fun v4 v5 v6 wr => ∃ (k : Nat) (pre : List (Nat × Int)) (A1 : Option Addr) (c1 : Nat) (A2 : Option Addr) (c2 : Nat), v6 = .int .i64 k ∧ k ≤ l.length + 4 ∧ R = pre ++ rnsAt l k ∧ v4 = .slice A1 pre.length c1 ∧ v5 = .slice A2 pre.length c2 ∧
    OR wr w.heap.size 21 A1 pre.length c1 (rv pre) ∧ OR wr w.heap.size 3 A2 pre.length c2 (av pre) ∧ Below w.heap.size w wr) (fun _ _ v6 _ => l.length + 4 - (intOf v6).toNat)
  case atStart => exact ⟨0, [], none, 0, none, 0, rfl, by omega, HR.out.symm, rfl, rfl, OR.none_ _ _ _, OR.none_ _ _ _, Below.refl _ _⟩
  case round =>
    obtain ⟨k, pre, A1, c1, A2, c2, rfl, hk, hpre, rfl, rfl, h1, h2, hbw⟩ := hrel
    by_cases hlt : k < l.length
    · have hlt' : (k : Int) < (l.length : Int) := by omega
      obtain ⟨b, off, rfl, _, _⟩ := HS.out.open_ (by simp [bv_length]; omega)
      have hpl : pre.length + 1 ≤ 100000 := by
        have := congrArg List.length hpre
        rw [rnsAt_step l k hlt] at this
        simp at this
        omega
      have hci : ¬ cap = k := by omega
      have hSd := ((HS.out.below hbw).more hbw.size).drop (k := k) (cap := cap) (by simp [bv_length]; omega)
      rw [if_neg hci, bv_drop, add_plain] at hSd
      have hstep := rnsAt_step l k hlt
      have hst : stp (l.drop k) = if (nx (l.drop k)).2.2 = true then (65533, 1) else ((nx (l.drop k)).1, (nx (l.drop k)).2.1.toNat) := rfl
      have hld : l.length - k = (l.drop k).length := by simp
      have HSd := Lib.hid hSd
      have HP := Lib.hid hpre
      have Hst := Lib.hid hstep
      have Hstp := Lib.hid hst
      have Hld := Lib.hid hld
      clear hSd hpre hstep hst hld
      go_wp2_with (fail)
      refine (rnext_any _ _ _ (l.drop k) wr Hld.out (by simp; omega) (by simp; omega) HSd.out).mono ?_
      rintro e w2 ⟨rfl, hb⟩
      simp only [nv]
      have hb2 : Below w.heap.size w w2 := hbw.trans (hb.mono hbw.size)
      have hs2 : w.heap.size ≤ w2.heap.size := hb2.size
      have h3 := h1.below hb (fun g hg => (h1.blk_lt g hg).2)
      have h4 := h2.below hb (fun g hg => (h2.blk_lt g hg).2)
      clear h1 h2 hb hbw
      by_cases hmo : (nx (l.drop k)).2.2 = true
      · have hP2 : Hid (R = (pre ++ [(k, 65533)]) ++ rnsAt l (k + 1)) := by
          have e1 := Hstp.out
          rw [if_pos hmo] at e1
          have e2 := Hst.out
          rw [e1] at e2
          have e3 := HP.out
          rw [e2] at e3
          rw [e3]; simp [Hid]
        rw [hmo]
        clear hmo
        go_wp2_with (first
          | (at_builtin
             refine wpList_app Tryd.underlying30 i32_info rfl (by omega) _ rfl (.tmp 23) (.tmp 25) rfl w.heap.size A1 pre.length c1 (rv pre) rfl (h3.alloc _) _ 1 1 [.int .i32 65533] (w2.heap.size + 1) rfl (Sl.new w2 #[.int .i32 65533] 21) rfl (fun h => by cases h) (by intro u hu; simp at hu; subst hu; rfl) (pre.length + 1) rfl (by omega) (by simp; omega) ?_
             intro A3 c3 w3 h5 hg3 hat3
             have hb3 : Below w.heap.size w w3 := (hb2.alloc hb2.size _).grown hg3 (by have := hb2.size; simp; omega) (fun g hg => (h3.blk_lt g hg).1)
             have h6 := (h4.alloc (.cells #[.int .i32 65533] 21)).kept hg3 (h4.apart h3 (by decide)))
          | (at_builtin
             refine wpList_app Tryd.underlying63 i64_info rfl (by omega) _ rfl (.tmp 27) (.tmp 29) rfl w.heap.size A2 pre.length c2 (av pre) rfl (h6.alloc _) _ 1 1 [.int .i64 k] (w3.heap.size + 1) rfl (Sl.new w3 #[.int .i64 k] 3) rfl (fun h => by cases h) (by intro u hu; simp at hu; subst hu; rfl) (pre.length + 1) rfl (by omega) (by have := hb3.size; simp; omega) ?_
             intro A4 c4 w4 h7 hg4 hat4
             have hb4 : Below w.heap.size w w4 := (hb3.alloc hb3.size _).grown hg4 (by have := hb3.size; simp; omega) (fun g hg => (h6.blk_lt g hg).1)
             have h8 := (h5.alloc (.cells #[.int .i64 k] 3)).kept hg4 (h5.apart h6 (by decide))))
        refine ⟨⟨k + 1, pre ++ [(k, 65533)], A3, c3, A4, c4, by go_num, by omega, hP2.out, by simp, by simp, by simpa [rv] using h8, by simpa [av] using h7, hb4⟩, by simp only [intOf]; omega⟩
      · have hmo' : (nx (l.drop k)).2.2 = false := by simpa using hmo
        have hnn := nx_n _ hmo'
        have e1 := Hstp.out
        rw [if_neg hmo] at e1
        rw [hmo']
        generalize hx : (nx (l.drop k)).1 = x at e1 ⊢
        generalize hm' : (nx (l.drop k)).2.1 = m at e1 hnn ⊢
        obtain ⟨m, rfl⟩ := Int.eq_ofNat_of_zero_le (by omega : 0 ≤ m)
        rw [Int.toNat_natCast] at e1
        have hP2 : Hid (R = (pre ++ [(k, x)]) ++ rnsAt l (k + m)) := by
          have e2 := Hst.out
          rw [e1] at e2
          have e3 := HP.out
          rw [e2] at e3
          rw [e3]; simp [Hid]
        clear hmo hmo' e1 hx hm'
        go_wp2_with (first
          | (at_builtin
             refine wpList_app Tryd.underlying30 i32_info rfl (by omega) _ rfl (.tmp 23) (.tmp 25) rfl w.heap.size A1 pre.length c1 (rv pre) rfl (h3.alloc _) _ 1 1 [.int .i32 x] (w2.heap.size + 1) rfl (Sl.new w2 #[.int .i32 x] 21) rfl (fun h => by cases h) (by intro u hu; simp at hu; subst hu; rfl) (pre.length + 1) rfl (by omega) (by simp; omega) ?_
             intro A3 c3 w3 h5 hg3 hat3
             have hb3 : Below w.heap.size w w3 := (hb2.alloc hb2.size _).grown hg3 (by have := hb2.size; simp; omega) (fun g hg => (h3.blk_lt g hg).1)
             have h6 := (h4.alloc (.cells #[.int .i32 x] 21)).kept hg3 (h4.apart h3 (by decide)))
          | (at_builtin
             refine wpList_app Tryd.underlying63 i64_info rfl (by omega) _ rfl (.tmp 27) (.tmp 29) rfl w.heap.size A2 pre.length c2 (av pre) rfl (h6.alloc _) _ 1 1 [.int .i64 k] (w3.heap.size + 1) rfl (Sl.new w3 #[.int .i64 k] 3) rfl (fun h => by cases h) (by intro u hu; simp at hu; subst hu; rfl) (pre.length + 1) rfl (by omega) (by have := hb3.size; simp; omega) ?_
             intro A4 c4 w4 h7 hg4 hat4
             have hb4 : Below w.heap.size w w4 := (hb3.alloc hb3.size _).grown hg4 (by have := hb3.size; simp; omega) (fun g hg => (h6.blk_lt g hg).1)
             have h8 := (h5.alloc (.cells #[.int .i64 k] 3)).kept hg4 (h5.apart h6 (by decide))))
        refine ⟨⟨k + m, pre ++ [(k, x)], A3, c3, A4, c4, by go_num, by omega, hP2.out, by simp, by simp, by simpa [rv] using h8, by simpa [av] using h7, hb4⟩, by simp only [intOf]; omega⟩
    · have hge : ¬ (k : Int) < (l.length : Int) := by omega
      have he : R = pre := by rw [hpre, rnsAt_end l k (by omega)]; simp
      have HE := Lib.hid he
      clear hpre he
      go_wp2
      go_ret2
      rw [HE.out]
      exact ⟨A1, c1, A2, c2, rfl, h1, h2, hbw⟩
end Go.Proofs.YtmgakdbcgdhpaaaDoor
