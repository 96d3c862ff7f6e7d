/-
  Walks of the reference: Check, Name.
-/
import Derived.Test.YthlhfbchilfgcaaDoorKmRef
import Derived.Test.YthlhfbchilfgcaaDoorKmNameF
namespace Go.Proofs.YthlhfbchilfgcaaDoor
open Go.RowKit
set_option linter.unusedVariables false
set_option linter.unusedSimpArgs false

theorem chk_spec (k : Kv) (hk : k.s.length ≤ 100) : chk k = true ↔ ((k.c = 1 ∨ k.c = 16) ∧ k.n = 0) ∨ (k.c = 17 ∧ ctrlV k.s = true ∧ k.n = 0) ∨ (k.c = 18 ∧ k.s = [] ∧ 1 ≤ k.n ∧ k.n ≤ 12) ∨ (2 ≤ k.c ∧ k.c ≤ 15 ∧ k.s = [] ∧ k.n = 0) := by
  constructor
  · intro h
    rcases chk_cases k hk h with ⟨h1, h2⟩ | h2 | h2
    · rcases h2 with ⟨a, b⟩ | ⟨a, b, hb, hc⟩ | ⟨a, b, hb⟩
      · exact .inl ⟨.inl a, h1⟩
      · exact .inr (.inl ⟨a, by rw [hb]; exact hc, h1⟩)
      · exact .inr (.inr (.inr ⟨a, b, hb, h1⟩))
    · exact .inl ⟨.inr h2.1, h2.2⟩
    · exact .inr (.inr (.inl h2))
  · intro h
    unfold chk vText vNum
    rcases h with ⟨a, b⟩ | ⟨a, b, d⟩ | ⟨a, b, d⟩ | ⟨a, b, d, e⟩
    · rw [if_pos a, if_neg (by omega)]
      simp
      omega
    · rw [if_neg (by omega), if_pos a, if_neg (by omega)]
      unfold ctrlV at b
      simp [d]
      exact b
    · rw [if_neg (by omega), if_neg (by omega), if_pos a]
      simp [b]
      omega
    · rw [if_neg (by omega), if_neg (by omega), if_neg (by omega)]
      simp [d]
      omega
set_option maxRecDepth 100000 in
set_option maxHeartbeats 8000000 in
theorem rcheck_any (k : Kv) (hk : k.s.length ≤ 100) (w : World) :
    Calls Tryd.prog 12 #[.agg #[.int .i64 k.c, .string ⟨k.s.toArray⟩, .int .i64 k.n, .bool k.a, .bool k.h, .bool k.t]] w fun e w' => e = .returned (.int .i64 (if chk k = true then 0 else 80)) ∧ Below w.heap.size w w' := by
  have hcs := chk_spec k hk
  obtain ⟨c, s, n, a, h, t⟩ := k
  simp only at hk hcs ⊢
  have HC := Lib.hid (rctrl_any s hk)
  generalize chk ⟨c, s, n, a, h, t⟩ = b at hcs ⊢
  obtain ⟨q, hq⟩ : ∃ q : ByteArray, q = ⟨s.toArray⟩ := ⟨_, rfl⟩
  have hsz : (q.size : Int) ≤ 65536 := by rw [hq]; simp [ByteArray.size]; omega
  have hem : q.toList.isEmpty = decide (s = []) := by
    rw [hq, Lib.toList_data]
    cases s <;> simp
  rw [← hq] at HC ⊢
  generalize ctrlV s = cv at HC hcs
  have yes : ∀ {P : Prop}, (b = true ↔ P) → P → (if b = true then (0 : Int) else 80) = 0 := fun h p => if_pos (h.2 p)
  have no : ∀ {P : Prop}, (b = true ↔ P) → ¬ P → (if b = true then (0 : Int) else 80) = 80 := fun h p => if_neg (fun x => p (h.1 x))
  by_cases h1 : 1 ≤ c
  · by_cases h2 : c ≤ 18
    · by_cases hn : n = 0
      · by_cases h3 : c = 1 ∨ c = 16
        · rw [yes hcs (.inl ⟨h3, hn⟩)]
          subst hn
          clear hcs hem hq hk yes no
          rcases h3 with rfl | rfl
          all_goals
            go_enter Tryd.func12, Tryd.ntmps12
            go_wp2_with (fail)
            go_ret
            exact ⟨rfl, kbel _ _⟩
        · have e1 : (c == 1) = false := by simp; omega
          have e16 : (c == 16) = false := by simp; omega
          by_cases h4 : c = 17
          · cases cv with
            | true =>
              rw [yes hcs (.inr (.inl ⟨h4, rfl, hn⟩))]
              subst h4 hn
              clear h3 e1 e16 hcs hem hq hk yes no
              go_enter Tryd.func12, Tryd.ntmps12
              go_wp2_with (go_at_call 41; refine (HC.out _).mono ?_; rintro e w' ⟨rfl, rfl⟩)
              go_ret
              exact ⟨rfl, kbel _ _⟩
            | false =>
              rw [no hcs (by rintro (⟨x, y⟩ | ⟨x, y, z⟩ | ⟨x, y, z⟩ | ⟨x, x', y, z⟩) <;> first | omega | cases y | (cases y))]
              subst h4 hn
              clear h3 e1 e16 hcs hem hq hk yes no
              go_enter Tryd.func12, Tryd.ntmps12
              go_wp2_with (go_at_call 41; refine (HC.out _).mono ?_; rintro e w' ⟨rfl, rfl⟩)
              go_ret
              exact ⟨rfl, kbel _ _⟩
          · have e17 : (c == 17) = false := by simp; omega
            by_cases h5 : c = 18
            · rw [no hcs (by rintro (⟨x, y⟩ | ⟨x, y, z⟩ | ⟨x, y, z⟩ | ⟨x, x', y, z⟩) <;> omega)]
              subst h5 hn
              clear h3 e1 e16 e17 hcs hq hk yes no
              cases hE : q.toList.isEmpty
              all_goals
                clear hem
                go_enter Tryd.func12, Tryd.ntmps12
                go_wp2_with (fail)
                go_ret
                exact ⟨rfl, kbel _ _⟩
            · have e18 : (c == 18) = false := by simp; omega
              by_cases hs0 : s = []
              · rw [yes hcs (.inr (.inr (.inr ⟨by omega, by omega, hs0, hn⟩)))]
                have hE : q.toList.isEmpty = true := by rw [hem]; simp [hs0]
                subst hn
                clear h3 h4 h5 hs0 hcs hem hq hk yes no
                go_enter Tryd.func12, Tryd.ntmps12
                go_wp2_with (go_at_call 41; refine (HC.out _).mono ?_; rintro e w' ⟨rfl, rfl⟩)
                go_ret
                exact ⟨rfl, kbel _ _⟩
              · rw [no hcs (by rintro (⟨x, y⟩ | ⟨x, y, z⟩ | ⟨x, y, z⟩ | ⟨x, x', y, z⟩) <;> first | omega | exact absurd y hs0 | (cases y))]
                have hE : q.toList.isEmpty = false := by rw [hem]; simp [hs0]
                subst hn
                clear h3 h4 h5 hs0 hcs hem hq hk yes no
                go_enter Tryd.func12, Tryd.ntmps12
                go_wp2_with (go_at_call 41; refine (HC.out _).mono ?_; rintro e w' ⟨rfl, rfl⟩)
                go_ret
                exact ⟨rfl, kbel _ _⟩
      · have en : (n == 0) = false := by simpa using hn
        by_cases h3 : c = 18
        · by_cases hs0 : s = []
          · have hE : q.toList.isEmpty = true := by rw [hem]; simp [hs0]
            by_cases h6 : 1 ≤ n
            · by_cases h7 : n ≤ 12
              · rw [yes hcs (.inr (.inr (.inl ⟨h3, hs0, h6, h7⟩)))]
                subst h3
                clear hs0 hn en hcs hem hq hk yes no
                go_enter Tryd.func12, Tryd.ntmps12
                go_wp2_with (go_at_call 41; refine (HC.out _).mono ?_; rintro e w' ⟨rfl, rfl⟩)
                go_ret
                exact ⟨rfl, kbel _ _⟩
              · rw [no hcs (by rintro (⟨x, y⟩ | ⟨x, y, z⟩ | ⟨x, y, z⟩ | ⟨x, x', y, z⟩) <;> first | omega | cases y | (cases y))]
                subst h3
                clear hs0 hn en hcs hem hq hk yes no
                go_enter Tryd.func12, Tryd.ntmps12
                go_wp2_with (go_at_call 41; refine (HC.out _).mono ?_; rintro e w' ⟨rfl, rfl⟩)
                go_ret
                exact ⟨rfl, kbel _ _⟩
            · rw [no hcs (by rintro (⟨x, y⟩ | ⟨x, y, z⟩ | ⟨x, y, z⟩ | ⟨x, x', y, z⟩) <;> first | omega | cases y | (cases y))]
              subst h3
              clear hs0 hn en hcs hem hq hk yes no
              go_enter Tryd.func12, Tryd.ntmps12
              go_wp2_with (go_at_call 41; refine (HC.out _).mono ?_; rintro e w' ⟨rfl, rfl⟩)
              go_ret
              exact ⟨rfl, kbel _ _⟩
          · have hE : q.toList.isEmpty = false := by rw [hem]; simp [hs0]
            rw [no hcs (by rintro (⟨x, y⟩ | ⟨x, y, z⟩ | ⟨x, y, z⟩ | ⟨x, x', y, z⟩) <;> first | omega | exact absurd y hs0)]
            subst h3
            clear hs0 hn en hcs hem hq hk yes no
            by_cases h6 : 1 ≤ n
            · by_cases h7 : n ≤ 12
              · go_enter Tryd.func12, Tryd.ntmps12
                go_wp2_with (fail)
                go_ret
                exact ⟨rfl, kbel _ _⟩
              · go_enter Tryd.func12, Tryd.ntmps12
                go_wp2_with (fail)
                go_ret
                exact ⟨rfl, kbel _ _⟩
            · go_enter Tryd.func12, Tryd.ntmps12
              go_wp2_with (fail)
              go_ret
              exact ⟨rfl, kbel _ _⟩
        · have e18 : (c == 18) = false := by simpa using h3
          have HNO := Lib.hid (no hcs (by rintro (⟨x, y⟩ | ⟨x, y, z⟩ | ⟨x, y, z⟩ | ⟨x, x', y, z⟩) <;> omega))
          rw [HNO.out]
          clear HNO
          by_cases h4 : c = 1 ∨ c = 16
          · clear hcs hem hq hk yes no hn h3
            rcases h4 with rfl | rfl
            all_goals
              go_enter Tryd.func12, Tryd.ntmps12
              go_wp2_with (fail)
              go_ret
              exact ⟨rfl, kbel _ _⟩
          · have e1 : (c == 1) = false := by simp; omega
            have e16 : (c == 16) = false := by simp; omega
            by_cases h5 : c = 17
            · subst h5
              clear hcs hem hq hk yes no hn h3 h4 e1 e16
              cases cv
              all_goals
                go_enter Tryd.func12, Tryd.ntmps12
                go_wp2_with (go_at_call 41; refine (HC.out _).mono ?_; rintro e w' ⟨rfl, rfl⟩)
                go_ret
                exact ⟨rfl, kbel _ _⟩
            · have e17 : (c == 17) = false := by simpa using h5
              clear hcs hq hk yes no hn h3 h4 h5
              cases hE : q.toList.isEmpty
              all_goals
                clear hem
                go_enter Tryd.func12, Tryd.ntmps12
                go_wp2_with (fail)
                go_ret
                exact ⟨rfl, kbel _ _⟩
    · rw [no hcs (by rintro (⟨x, y⟩ | ⟨x, y, z⟩ | ⟨x, y, z⟩ | ⟨x, x', y, z⟩) <;> omega)]
      clear hcs hem hq hk yes no
      go_enter Tryd.func12, Tryd.ntmps12
      go_wp2_with (go_at_call 41; refine (HC.out _).mono ?_; rintro e w' ⟨rfl, rfl⟩)
      go_ret
      exact ⟨rfl, kbel _ _⟩
  · rw [no hcs (by rintro (⟨x, y⟩ | ⟨x, y, z⟩ | ⟨x, y, z⟩ | ⟨x, x', y, z⟩) <;> omega)]
    clear hcs hem hq hk yes no
    go_enter Tryd.func12, Tryd.ntmps12
    go_wp2_with (go_at_call 41; refine (HC.out _).mono ?_; rintro e w' ⟨rfl, rfl⟩)
    go_ret
    exact ⟨rfl, kbel _ _⟩
end Go.Proofs.YthlhfbchilfgcaaDoor
