/-
  Walks: Word; the laws' awake.
-/
import Derived.Test.YthlhfbchilfgcaaDoorKmAct
namespace Go.Proofs.YthlhfbchilfgcaaDoor
open Go.RowKit Go.Maps
set_option linter.unusedVariables false
set_option linter.unusedSimpArgs false

set_option maxHeartbeats 1000000 in
theorem isAction_yes (a : Int) (h1 : 1 ≤ a) (h2 : a ≤ 19) (w : World) :
    Calls Tryd.prog 50 #[.int .i64 a] w fun e w' => e = .returned (.bool true) ∧ w = w' := by
  go_enter Tryd.func50, Tryd.ntmps50
  go_wp2_with (fail)
  go_ret
  exact ⟨rfl, rfl⟩
set_option maxRecDepth 100000 in
set_option maxHeartbeats 1000000 in
theorem word_yes (i : Nat) (h1 : 1 ≤ i) (h2 : i ≤ 19) (w : World) (hT : StrT w 1 wordT) :
    Calls Tryd.prog 21 #[.int .i64 i] w fun e w' => e = .returned (.string ⟨(wordT.getD i []).toArray⟩) ∧ w = w' := by
  have hx := hT i (by show i < 20; omega)
  obtain ⟨d, hd⟩ : ∃ d : ByteArray, d = ⟨(wordT.getD i []).toArray⟩ := ⟨_, rfl⟩
  rw [← hd] at hx ⊢
  have hi : (i : Int) < 20 := by omega
  clear hT hd
  go_enter Tryd.func21, Tryd.ntmps21
  go_wp2_with (go_at_call 50; refine (isAction_yes i (by omega) (by omega) _).mono ?_; rintro e w' ⟨rfl, rfl⟩)
  go_ret
  exact ⟨rfl, rfl⟩

def kUp : Kv := { Kv.no with c := 8 }
def kA : Kv := { Kv.no with c := 17, s := [97] }
def kL : Kv := { Kv.no with c := 10, a := true }
def kB : Kv := { Kv.no with c := 1, s := [98], a := true }
theorem okUp : okN kUp := ⟨rfl, .inr (.inr ⟨by decide, by decide, rfl⟩)⟩
theorem okA : okN kA := ⟨rfl, .inr (.inl ⟨rfl, 97, rfl, rfl⟩)⟩
theorem okL : okN kL := ⟨rfl, .inr (.inr ⟨by decide, by decide, rfl⟩)⟩
theorem okB : okN kB := ⟨rfl, .inl ⟨rfl, by decide⟩⟩

set_option maxRecDepth 100000 in
set_option maxHeartbeats 4000000 in
theorem mawake_any (w : World) (hT : KmT w) :
    Calls Tryd.prog 15 #[] w fun e w' => e = .returned (.bool true) ∧ Below w.heap.size w w' := by
  have HT := Lib.hid hT
  have HU := Lib.hid (usual_any w hT)
  have he := fun a => run_eql_sn a
  have HN1 : Hid (∀ W, StrT W 2 nameT → Calls Tryd.prog 13 #[.agg #[.int .i64 17, .string ⟨#[97]⟩, .int .i64 0, .bool false, .bool false, .bool false]] W fun e w' => e = .returned (.string ⟨#[99, 116, 114, 108, 45, 97]⟩) ∧ Below W.heap.size W w') := Lib.hid (fun W hW => by
    have h := name_yes kA okA W hW
    rw [show nameK kA = [99, 116, 114, 108, 45, 97] by decide +kernel] at h
    exact h)
  have HN2 : Hid (∀ W, StrT W 2 nameT → Calls Tryd.prog 13 #[.agg #[.int .i64 10, .string ⟨#[]⟩, .int .i64 0, .bool true, .bool false, .bool false]] W fun e w' => e = .returned (.string ⟨#[97, 108, 116, 45, 108, 101, 102, 116]⟩) ∧ Below W.heap.size W w') := Lib.hid (fun W hW => by
    have h := name_yes kL okL W hW
    rw [show nameK kL = [97, 108, 116, 45, 108, 101, 102, 116] by decide +kernel] at h
    exact h)
  have HN3 : Hid (∀ W, StrT W 2 nameT → Calls Tryd.prog 13 #[.agg #[.int .i64 1, .string ⟨#[98]⟩, .int .i64 0, .bool true, .bool false, .bool false]] W fun e w' => e = .returned (.string ⟨#[97, 108, 116, 45, 116, 101, 120, 116, 46, 98]⟩) ∧ Below W.heap.size W w') := Lib.hid (fun W hW => by
    have h := name_yes kB okB W hW
    rw [show nameK kB = [97, 108, 116, 45, 116, 101, 120, 116, 46, 98] by decide +kernel] at h
    exact h)
  have HWD : Hid (∀ W, StrT W 1 wordT → Calls Tryd.prog 21 #[.int .i64 18] W fun e w' => e = .returned (.string ⟨#[111, 108, 100, 101, 114]⟩) ∧ W = w') := Lib.hid (fun W hW => word_yes 18 (by omega) (by omega) W hW)
  have HAC : Hid (∀ W M b, MBlk W M b → MOwns W b 1000 (UD 20) → StrT W 2 nameT → Calls Tryd.prog 28 #[.pointer (some ⟨M, 0, none⟩), .agg #[.int .i64 8, .string ⟨#[]⟩, .int .i64 0, .bool false, .bool false, .bool false]] W fun e w' => e = .returned (.tuple #[.int .i64 18, .bool true]) ∧ Below W.heap.size W w') := Lib.hid (fun W M b hM ho hW => by
    have e : nameK kUp = [117, 112] := by decide +kernel
    exact act_yes M b 1000 (UD 20) kUp okUp 18 W hM ho hW (by rw [e]; exact ud_up.1) (by rw [e]; exact ud_up.2))
  have t1 : True := trivial
  have t2 : True := trivial
  clear hT
  go_enter Tryd.func15, Tryd.ntmps15
  go_wp2_with (first
    | (go_at_call 17; refine HU.out.mono ?_; rintro e w1 ⟨M, b, rfl, _, _, hM, ho, hb1⟩; have HM := Lib.hid hM; have HO := Lib.hid ho; have HB1 := Lib.hid hb1; have HT1 := Lib.hid (HT.out.below hb1 (Nat.le_refl _)); clear hM ho hb1)
    | (go_at_call 28; refine (HAC.out _ M b HM.out HO.out HT1.out.nm).mono ?_; rintro e w2 ⟨rfl, hb2⟩; have HB2 := Lib.hid (HB1.out.trans (hb2.mono HB1.out.size)); have HT2 := Lib.hid (HT1.out.below hb2 (Nat.le_refl _)); clear hb2)
    | (go_at_call 21; refine (HWD.out _ HT2.out.wd).mono ?_; rintro e w3 ⟨rfl, rfl⟩)
    | (go_at_call 13; have _t := t1; refine (HN1.out _ HT2.out.nm).mono ?_; rintro e w4 ⟨rfl, hb4⟩; have HB4 := Lib.hid (HB2.out.trans (hb4.mono HB2.out.size)); have HT4 := Lib.hid (HT2.out.below hb4 (Nat.le_refl _)); clear hb4 _t t1)
    | (go_at_call 13; have _t := t2; refine (HN2.out _ HT4.out.nm).mono ?_; rintro e w5 ⟨rfl, hb5⟩; have HB5 := Lib.hid (HB4.out.trans (hb5.mono HB4.out.size)); have HT5 := Lib.hid (HT4.out.below hb5 (Nat.le_refl _)); clear hb5 _t t2)
    | (go_at_call 13; refine (HN3.out _ HT5.out.nm).mono ?_; rintro e w6 ⟨rfl, hb6⟩; have HB6 := Lib.hid (HB5.out.trans (hb6.mono HB5.out.size)); clear hb6))
  go_ret
  exact ⟨rfl, HB6.out⟩
end Go.Proofs.YthlhfbchilfgcaaDoor
