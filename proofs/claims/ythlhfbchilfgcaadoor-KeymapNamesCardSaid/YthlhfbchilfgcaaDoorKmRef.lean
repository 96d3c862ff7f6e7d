/-
  Walks of the reference: ctrl, digits, word.
-/
import Derived.Test.YthlhfbchilfgcaaDoorKmAny
namespace Go.Proofs.YthlhfbchilfgcaaDoor
open Go.RowKit
set_option linter.unusedVariables false
set_option linter.unusedSimpArgs false

def ctrlV (s : List UInt8) : Bool := match s with
  | [b] => isC8 b
  | _ => false
theorem isC8_iff (b : UInt8) : isC8 b = true ↔ (97 ≤ (b.toNat : Int) ∧ (b.toNat : Int) ≤ 122) ∨ (b.toNat : Int) = 64 ∨ (91 ≤ (b.toNat : Int) ∧ (b.toNat : Int) ≤ 95) := by
  constructor
  · intro h
    have := isC8_z b h
    omega
  · intro h
    cases hc : isC8 b with
    | true => rfl
    | false =>
      have := isC8_no b hc
      omega
theorem isC8_f (b : UInt8) (h : ¬ ((97 ≤ (b.toNat : Int) ∧ (b.toNat : Int) ≤ 122) ∨ (b.toNat : Int) = 64 ∨ (91 ≤ (b.toNat : Int) ∧ (b.toNat : Int) ≤ 95))) : isC8 b = false := by
  cases hc : isC8 b with
  | false => rfl
  | true => exact absurd ((isC8_iff b).1 hc) h
set_option maxRecDepth 100000 in
set_option maxHeartbeats 4000000 in
theorem rctrl_any (s : List UInt8) (hs : s.length ≤ 100) (w : World) :
    Calls Tryd.prog 41 #[.string ⟨s.toArray⟩] w fun e w' => e = .returned (.bool (ctrlV s)) ∧ w = w' := by
  match s, hs with
  | [], _ =>
    show Calls _ _ _ _ fun e w' => e = .returned (.bool false) ∧ w = w'
    go_enter Tryd.func41, Tryd.ntmps41
    go_wp2_with (fail)
    go_ret
    exact ⟨rfl, rfl⟩
  | b :: d :: s, hs =>
    show Calls _ _ _ _ fun e w' => e = .returned (.bool false) ∧ w = w'
    obtain ⟨q, hq⟩ : ∃ q : ByteArray, q = ⟨(b :: d :: s).toArray⟩ := ⟨_, rfl⟩
    have hsz : ((q.size : Int) == 1) = false := by rw [hq]; simp [ByteArray.size]; omega
    rw [← hq]
    clear hq hs
    go_enter Tryd.func41, Tryd.ntmps41
    go_wp2_with (fail)
    go_ret
    exact ⟨rfl, rfl⟩
  | [b], _ =>
    show Calls _ _ _ _ fun e w' => e = .returned (.bool (isC8 b)) ∧ w = w'
    obtain ⟨z, hz⟩ : ∃ z : Nat, z = b.toNat := ⟨_, rfl⟩
    have hb : (b.toNat : Int) = z := by omega
    obtain ⟨q, hq⟩ : ∃ q : ByteArray, q = ⟨#[b]⟩ := ⟨_, rfl⟩
    have hsz : q.size = 1 := by rw [hq]; rfl
    have h0 : ∀ h : 0 < q.size, (q[0]'h).toNat = z := by
      subst hq
      intro _
      rw [hz]
      rfl
    show Calls _ _ #[.string ⟨#[b]⟩] _ _
    rw [← hq]
    by_cases h1 : 97 ≤ (z : Int)
    · have e64 : ((z : Int) == 64) = false := by simp; omega
      have h91 : 91 ≤ (z : Int) := by omega
      have h95 : ¬ (z : Int) ≤ 95 := by omega
      by_cases h2 : (z : Int) ≤ 122
      · rw [(isC8_iff b).2 (by rw [hb]; omega)]
        clear hb hq hz
        go_enter Tryd.func41, Tryd.ntmps41
        go_wp2_with (fail)
        go_ret
        exact ⟨rfl, rfl⟩
      · rw [isC8_f b (by rw [hb]; omega)]
        clear hb hq hz
        go_enter Tryd.func41, Tryd.ntmps41
        go_wp2_with (fail)
        go_ret
        exact ⟨rfl, rfl⟩
    · by_cases h2 : (z : Int) = 64
      · have e64 : ((z : Int) == 64) = true := by simp; omega
        rw [(isC8_iff b).2 (by rw [hb]; omega)]
        clear hb hq hz h2
        go_enter Tryd.func41, Tryd.ntmps41
        go_wp2_with (fail)
        go_ret
        exact ⟨rfl, rfl⟩
      · have e64 : ((z : Int) == 64) = false := by simp; omega
        by_cases h3 : 91 ≤ (z : Int)
        · by_cases h4 : (z : Int) ≤ 95
          · rw [(isC8_iff b).2 (by rw [hb]; omega)]
            clear hb hq hz h2
            go_enter Tryd.func41, Tryd.ntmps41
            go_wp2_with (fail)
            go_ret
            exact ⟨rfl, rfl⟩
          · rw [isC8_f b (by rw [hb]; omega)]
            clear hb hq hz h2
            go_enter Tryd.func41, Tryd.ntmps41
            go_wp2_with (fail)
            go_ret
            exact ⟨rfl, rfl⟩
        · rw [isC8_f b (by rw [hb]; omega)]
          clear hb hq hz h2
          go_enter Tryd.func41, Tryd.ntmps41
          go_wp2_with (fail)
          go_ret
          exact ⟨rfl, rfl⟩

def wordR : List (List UInt8) := nameT ++ [[99, 116, 114, 108, 45], [102]]
set_option maxRecDepth 100000 in
set_option maxHeartbeats 4000000 in
theorem rword_any (i : Nat) (hi : i ≤ 18) (w : World) :
    Calls Tryd.prog 43 #[.int .i64 i] w fun e w' => e = .returned (.string ⟨(wordR.getD i []).toArray⟩) ∧ Below w.heap.size w w' := by
  have hS := Sl.new w (strV wordR).toArray 9
  obtain ⟨d, hd⟩ : ∃ d : ByteArray, d = ⟨(wordR.getD i []).toArray⟩ := ⟨_, rfl⟩
  have hx : (w.alloc (.cells #[.string ⟨#[]⟩, .string ⟨#[116, 101, 120, 116]⟩, .string ⟨#[101, 110, 116, 101, 114]⟩, .string ⟨#[116, 97, 98]⟩, .string ⟨#[98, 97, 99, 107, 116, 97, 98]⟩, .string ⟨#[101, 115, 99, 97, 112, 101]⟩, .string ⟨#[98, 97, 99, 107, 115, 112, 97, 99, 101]⟩, .string ⟨#[100, 101, 108, 101, 116, 101]⟩, .string ⟨#[117, 112]⟩, .string ⟨#[100, 111, 119, 110]⟩, .string ⟨#[108, 101, 102, 116]⟩, .string ⟨#[114, 105, 103, 104, 116]⟩, .string ⟨#[104, 111, 109, 101]⟩, .string ⟨#[101, 110, 100]⟩, .string ⟨#[112, 97, 103, 101, 117, 112]⟩, .string ⟨#[112, 97, 103, 101, 100, 111, 119, 110]⟩, .string ⟨#[112, 97, 115, 116, 101]⟩, .string ⟨#[99, 116, 114, 108, 45]⟩, .string ⟨#[102]⟩] 9)).cell? ⟨w.heap.size, i, none⟩ = some (.string d) := by
    rw [hd]
    rw [World.cell?_alloc_new]
    have : ∀ j : Nat, j < 19 → (#[Value.string ⟨#[]⟩, .string ⟨#[116, 101, 120, 116]⟩, .string ⟨#[101, 110, 116, 101, 114]⟩, .string ⟨#[116, 97, 98]⟩, .string ⟨#[98, 97, 99, 107, 116, 97, 98]⟩, .string ⟨#[101, 115, 99, 97, 112, 101]⟩, .string ⟨#[98, 97, 99, 107, 115, 112, 97, 99, 101]⟩, .string ⟨#[100, 101, 108, 101, 116, 101]⟩, .string ⟨#[117, 112]⟩, .string ⟨#[100, 111, 119, 110]⟩, .string ⟨#[108, 101, 102, 116]⟩, .string ⟨#[114, 105, 103, 104, 116]⟩, .string ⟨#[104, 111, 109, 101]⟩, .string ⟨#[101, 110, 100]⟩, .string ⟨#[112, 97, 103, 101, 117, 112]⟩, .string ⟨#[112, 97, 103, 101, 100, 111, 119, 110]⟩, .string ⟨#[112, 97, 115, 116, 101]⟩, .string ⟨#[99, 116, 114, 108, 45]⟩, .string ⟨#[102]⟩] : Array Value)[j]? = some (.string ⟨(wordR.getD j []).toArray⟩) := by
      intro j hj
      have : j = 0 ∨ j = 1 ∨ j = 2 ∨ j = 3 ∨ j = 4 ∨ j = 5 ∨ j = 6 ∨ j = 7 ∨ j = 8 ∨ j = 9 ∨ j = 10 ∨ j = 11 ∨ j = 12 ∨ j = 13 ∨ j = 14 ∨ j = 15 ∨ j = 16 ∨ j = 17 ∨ j = 18 := by omega
      rcases this with rfl | rfl | rfl | rfl | rfl | rfl | rfl | rfl | rfl | rfl | rfl | rfl | rfl | rfl | rfl | rfl | rfl | rfl | rfl <;> rfl
    exact this i (by omega)
  rw [← hd]
  have h1 : ¬ (i : Int) < 0 := by omega
  have h2 : ¬ (19 : Int) ≤ (i : Int) := by omega
  have h3 : (i : Int) < 19 := by omega
  clear hS hd
  go_enter Tryd.func43, Tryd.ntmps43
  go_wp2_with (fail)
  go_ret
  exact ⟨rfl, kbel _ _⟩
theorem digA : ∀ m : Nat, m < 10 → Lib.decDigits m = [UInt8.ofNat (48 + m)] := by decide +kernel
theorem digB : ∀ m : Nat, m < 13 → 10 ≤ m → Lib.decDigits m = [49, UInt8.ofNat (48 + m - 10)] := by decide +kernel
set_option maxRecDepth 100000 in
set_option maxHeartbeats 4000000 in
theorem rdigits_any (m : Nat) (h1 : 1 ≤ m) (h2 : m ≤ 12) (w : World) :
    Calls Tryd.prog 44 #[.int .i64 m] w fun e w' => e = .returned (.string ⟨(Lib.decDigits m).toArray⟩) ∧ Below w.heap.size w w' := by
  by_cases h : m < 10
  · rw [digA m h]
    have hS := Sl.new w (bv [UInt8.ofNat (48 + m)]).toArray 5
    have e : (bv [UInt8.ofNat (48 + m)]).toArray = #[.int .u8 (48 + (m : Int))] := by
      have h1 : (48 + m) % 256 = 48 + m := by omega
      simp [bv, UInt8.toNat_ofNat', h1]
    rw [e] at hS
    have hcv := run_str_sl (w.alloc (.cells #[.int .u8 (48 + (m : Int))] 5)) (w.heap.size + 1) (some ⟨w.heap.size, 0, none⟩) 1 1 [UInt8.ofNat (48 + m)] (by rw [← e] at hS ⊢; simpa using hS) rfl
    have hi : (m : Int) < 10 := by omega
    generalize [UInt8.ofNat (48 + m)] = l at hcv ⊢
    clear hS e h2 h
    go_enter Tryd.func44, Tryd.ntmps44
    go_wp2_with (fail)
    go_ret
    exact ⟨rfl, kbel _ _⟩
  · rw [digB m (by omega) (by omega)]
    have hS := Sl.new w (bv [49, UInt8.ofNat (48 + m - 10)]).toArray 5
    have e : (bv [49, UInt8.ofNat (48 + m - 10)]).toArray = #[.int .u8 49, .int .u8 (48 + (m : Int) - 10)] := by
      have h1 : (48 + m - 10) % 256 = 48 + m - 10 := by omega
      simp [bv, UInt8.toNat_ofNat', h1]
      omega
    rw [e] at hS
    have hcv := run_str_sl (w.alloc (.cells #[.int .u8 49, .int .u8 (48 + (m : Int) - 10)] 5)) (w.heap.size + 1) (some ⟨w.heap.size, 0, none⟩) 2 2 [49, UInt8.ofNat (48 + m - 10)] (by rw [← e] at hS ⊢; simpa using hS) rfl
    have hi : ¬ (m : Int) < 10 := by omega
    have hi2 : (m : Int) ≤ 12 := by omega
    generalize [49, UInt8.ofNat (48 + m - 10)] = l at hcv ⊢
    clear hS e h
    go_enter Tryd.func44, Tryd.ntmps44
    go_wp2_with (fail)
    go_ret
    exact ⟨rfl, kbel _ _⟩
end Go.Proofs.YthlhfbchilfgcaaDoor
