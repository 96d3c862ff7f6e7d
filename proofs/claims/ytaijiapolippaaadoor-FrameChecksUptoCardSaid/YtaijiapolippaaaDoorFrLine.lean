/-
  Walks: the reference's Line, a row's text.
-/
import Derived.Test.YtaijiapolippaaaDoorGfA
import Derived.Test.YtaijiapolippaaaDoorGfG
import Derived.Outline
namespace Go.Proofs.YtaijiapolippaaaDoor
open Go.RowKit
set_option linter.unusedVariables false
set_option linter.unusedSimpArgs false

theorem fstr_add (a b : List UInt8) : (⟨a.toArray⟩ : ByteArray) ++ ⟨b.toArray⟩ = ⟨(a ++ b).toArray⟩ := by
  apply ByteArray.ext; simp [ByteArray.data_append]
def lineM (l : List Cl) : List UInt8 := l.flatMap (·.s)
theorem lineM_append (l m : List Cl) : lineM (l ++ m) = lineM l ++ lineM m := by simp [lineM]
theorem lineM_take_succ {l : List Cl} {k : Nat} {x : Cl} (h : l[k]? = some x) : lineM (l.take (k + 1)) = lineM (l.take k) ++ x.s := by
  have hk : k < l.length := (List.getElem?_eq_some_iff.1 h).1
  have e : l[k] = x := by rw [List.getElem?_eq_getElem hk] at h; injection h
  rw [List.take_succ_eq_append_getElem hk, lineM_append, e]
  simp [lineM]
theorem lineM_take_le (l : List Cl) (k : Nat) : (lineM (l.take k)).length ≤ (lineM l).length := by
  have : lineM l = lineM (l.take k) ++ lineM (l.drop k) := by rw [← lineM_append, List.take_append_drop]
  rw [this, List.length_append]; omega
set_option maxRecDepth 100000 in
set_option maxHeartbeats 4000000 in
theorem rline_any (l : List Cl) (n c B : Nat) (A : Option Addr) (w : World) (hn : n = l.length) (h5 : n ≤ 100000) (hs : (lineM l).length ≤ 140737488351232) (hA : Sl w B A (rc l)) :
    Calls Tryd.prog 38 #[.slice A n c] w fun e w' => e = .returned (.string ⟨(lineM l).toArray⟩) ∧ w = w' := by
  have HN := Lib.hid hn
  have HA := Lib.hid hA
  have hle := lineM_take_le l
  have HS := Lib.hid hs
  have HLE := Lib.hid hle
  clear hn hs hA hle
  go_enter Tryd.func38, Tryd.ntmps38
  go_wp2
  go_loop [3, 4] (fun s i => ∃ k : Nat, i = .int .i64 k ∧ k ≤ n ∧ s = .string ⟨(lineM (l.take k)).toArray⟩) (fun _ i => n - (intOf i).toNat)
  case atStart => exact ⟨0, rfl, by omega, by simp [lineM]⟩
  case round =>
    obtain ⟨k, rfl, hk, rfl⟩ := hrel
    by_cases hlt : k < n
    · have hki : (k : Int) < n := by omega
      have hkl : k < l.length := by have := HN.out; omega
      have hx : l[k]? = some l[k] := List.getElem?_eq_getElem hkl
      generalize l[k] = x at hx
      obtain ⟨b, off, rfl, hbb, hcx⟩ := HA.out.open_ (by rw [rc_length]; omega)
      have hc : w.cell? ⟨b, off + k * 7, none⟩ = some (.string ⟨x.s.toArray⟩) := hcx (k * 7) _ (rc_get hx (j := 0) rfl)
      have hsu := lineM_take_succ hx
      have hl2 := HLE.out (k + 1)
      have hl3 := HS.out
      rw [hsu, List.length_append] at hl2
      have hpd : (lineM (l.take k)).length + x.s.length ≤ 140737488351232 := by omega
      clear hcx hx hkl hl2 hl3
      generalize lineM (l.take k) = p at hpd hsu ⊢
      generalize x.s = d at hc hpd hsu
      have hsa := fstr_add p d
      have HSA := Lib.hid hsa
      have HSU := Lib.hid hsu
      clear hsa hsu
      go_wp2
      go_round
      case rel => exact ⟨k + 1, by go_num, by omega, by rw [HSU.out, HSA.out]⟩
      case measure => simp [intOf]; omega
    · have hki : ¬ (k : Int) < n := by omega
      obtain rfl : k = n := by omega
      have htk : l.take k = l := List.take_of_length_le (by have := HN.out; omega)
      rw [htk]
      clear htk
      go_wp2
      go_ret
      exact ⟨rfl, rfl⟩
end Go.Proofs.YtaijiapolippaaaDoor
