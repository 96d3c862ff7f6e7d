/-
  The reference's plain, whole.
-/
import Derived.Test.YtfmkeeaenjeneaaGreatDoorRtPlain2
namespace Go.Proofs.YtfmkeeaenjeneaaGreatDoor
open Go.RowKit Go.Sort
set_option linter.unusedVariables false
set_option linter.unusedSimpArgs false

set_option maxRecDepth 100000 in
set_option maxHeartbeats 8000000 in
theorem rplain_any {w : World} {D : Nat → Prop} {A : Option Addr} {c : Nat} {T : TS} {vB : Value} (h : RfAt w D A c T.L) (hk : TOk T) (hv : vB.oneCell' = true) (xs : List Int) (Al : Option Addr) (m cl : Nat) (hm : m = xs.length) (h1 : 0 < m) (h2 : m ≤ 200) (hx : ∀ v ∈ xs, 0 ≤ v ∧ v ≤ 9999) (hS : Sl w w.heap.size Al (iv xs)) (f : UInt8) :
    Calls Tryz.prog 115 #[.agg #[.int .i64 T.W, .int .i64 T.L.length, .slice A T.L.length c, .int .i64 T.row, .int .i64 T.col, .bool T.y.b, .bool T.y.u, .bool T.y.i, .int .i64 T.y.f, .int .i64 T.y.g, .bool T.pend, .bool T.seen, .bool T.mark, .int .i64 T.bells, .int .i64 T.scr, vB, .bool T.joins, .int .i64 T.lr, .int .i64 T.lc], .slice Al m cl, .int .u8 f.toNat] w fun e w' => ∃ V, e = .returned V ∧ RtV w' (fun b => D b ∨ w.heap.size ≤ b) V (if f = 109 then { T with y := xs.foldl styT T.y } else plainT T (xs.getD 0 0) (xs.getD 1 0) f) vB ∧ Below w.heap.size w w' := by
  by_cases fm : f = 109
  · subst fm
    rw [if_pos rfl]
    exact rplain_m h hk hv xs Al m cl hm h1 h2 hx hS
  rw [if_neg fm]
  unfold plainT
  by_cases fA : f = 65
  · subst fA
    rw [if_pos rfl]
    exact rplain_A h hk hv xs Al m cl hm h1 h2 hx hS
  rw [if_neg fA]
  by_cases fB : f = 66
  · subst fB
    rw [if_pos rfl]
    exact rplain_B h hk hv xs Al m cl hm h1 h2 hx hS
  rw [if_neg fB]
  by_cases fC : f = 67
  · subst fC
    rw [if_pos rfl]
    exact rplain_C h hk hv xs Al m cl hm h1 h2 hx hS
  rw [if_neg fC]
  by_cases fD : f = 68
  · subst fD
    rw [if_pos rfl]
    exact rplain_D h hk hv xs Al m cl hm h1 h2 hx hS
  rw [if_neg fD]
  by_cases fG : f = 71
  · subst fG
    rw [if_pos rfl]
    exact rplain_G h hk hv xs Al m cl hm h1 h2 hx hS
  rw [if_neg fG]
  by_cases fH : f = 72
  · subst fH
    rw [if_pos rfl]
    by_cases hm1 : 1 < m
    · exact rplain_H2 h hk hv xs Al m cl hm hm1 h2 hx hS
    · exact rplain_H1 h hk hv xs Al m cl hm h1 (by omega) hx hS
  rw [if_neg fH]
  by_cases fJ : f = 74
  · subst fJ
    rw [if_pos rfl]
    exact rplain_J h hk hv xs Al m cl hm h1 h2 hx hS
  rw [if_neg fJ]
  by_cases fK : f = 75
  · subst fK
    rw [if_pos rfl]
    exact rplain_K h hk hv xs Al m cl hm h1 h2 hx hS
  rw [if_neg fK]
  exact rplain_none h hk hv xs Al m cl hm h1 h2 hx hS f ⟨fA, fB, fC, fD, fG, fH, fJ, fK, fm⟩
end Go.Proofs.YtfmkeeaenjeneaaGreatDoor
