/-
  What the calls of Newer behind a whole walk back come to.
-/
import Derived.Test.YtfjifbacclkmmaaDoorHsBack
namespace Go.Proofs.YtfjifbacclkmmaaDoor
open Go.RowKit
set_option linter.unusedVariables false
set_option linter.unusedSimpArgs false

/-- the walk's lines, by their texts -/
def tW (d b : List UInt8) (L : List (List UInt8)) : List (List UInt8) := L.filter (hasW d b)
theorem txh_fW (d b : List UInt8) (L : List (List UInt8)) : txh (fW d b L) = tW d b L := by
  unfold txh fW tW
  conv => rhs; rw [← txh_hats L]
  unfold txh
  rw [List.filter_map]
  rfl
theorem StW.all {d b : List UInt8} {L l : List (List UInt8)} {K : Option HW} (h : StW d b L l K) (hn : nextW d b L (walkOf K d b).2.2 = none) : l = tW d b L := by
  rw [h.next.2, ← next_none hn, txh_fW]
theorem snoc_take {α : Type} {F a : List α} {x : α} {t : Nat} (h : F.take (t + 1) = a ++ [x]) (ht : t + 1 ≤ F.length) : a = F.take t ∧ F[t]? = some x := by
  rw [List.take_add_one, List.getElem?_eq_getElem (by omega)] at h
  have := List.append_inj' h rfl
  refine ⟨this.1.symm, ?_⟩
  rw [List.getElem?_eq_getElem (by omega)]
  have h2 := this.2
  simp at h2
  rw [h2]
/-- One call of Newer that has a line before. -/
theorem newer_step {w : World} {lo h c most : Nat} {A : Option Addr} {L F : List (List UInt8)} {K : Option HW} {d b : List UInt8} {t : Nat} (q : HsAt w lo h A c most L K) (hlw : lo ≤ w.heap.size) (hs : StW d b L (F.take (t + 2)) K) (ht : t + 2 ≤ F.length) :
    Calls Tryd.prog 23 #[.pointer (some ⟨h, 0, none⟩)] w fun e w' => ∃ y K', e = .returned (.tuple #[.string ⟨y.toArray⟩, .bool true]) ∧ F[t]? = some y ∧ StW d b L (F.take (t + 1)) K' ∧ HsAt w' lo h A c most L K' ∧ Chg (one h) w w' := by
  cases K with
  | none =>
    have h1 : F.take (t + 2) = [] := hs
    have := congrArg List.length h1
    rw [List.length_take] at this; simp only [List.length_nil] at this; omega
  | some k =>
    obtain ⟨rfl, rfl, ⟨x, hx, hp⟩, hl⟩ := hs
    rw [gW_succ hx hp, txh_snoc] at hl
    obtain ⟨hl1, _⟩ := snoc_take hl ht
    refine (hnewer_some q hlw).mono ?_
    rintro e w' (⟨hn, _⟩ | ⟨i, y, hn, rfl, hq, hc⟩)
    · have h0 := prev_none hn
      rw [h0] at hl1
      have := congrArg List.length hl1
      rw [List.length_take] at this; simp only [txh, List.map_nil, List.length_nil] at this; omega
    · obtain ⟨hji, hjl, hjp, hg⟩ := prev_some hn
      have hl2 := hl1
      rw [hg, gW_succ hjl hjp, txh_snoc] at hl2
      obtain ⟨hl3, hF⟩ := snoc_take (t := t) hl2.symm (by omega)
      exact ⟨y, some ⟨k.d, k.b, i, k.xd, k.xb⟩, rfl, hF, ⟨rfl, rfl, ⟨y, hjl, hjp⟩, by rw [← hl1, hg]⟩, hq, hc⟩
/-- The call of Newer at the first line. -/
theorem newer_last {w : World} {lo h c most : Nat} {A : Option Addr} {L F : List (List UInt8)} {K : Option HW} {d b : List UInt8} (q : HsAt w lo h A c most L K) (hlw : lo ≤ w.heap.size) (hs : StW d b L (F.take 1) K) (hF : 1 ≤ F.length) :
    Calls Tryd.prog 23 #[.pointer (some ⟨h, 0, none⟩)] w fun e w' => e = .returned (.tuple #[.string ⟨d.toArray⟩, .bool true]) ∧ HsAt w' lo h A c most L none ∧ Chg (one h) w w' := by
  cases K with
  | none =>
    have h1 : F.take 1 = [] := hs
    have := congrArg List.length h1
    rw [List.length_take] at this; simp only [List.length_nil] at this; omega
  | some k =>
    obtain ⟨rfl, rfl, ⟨x, hx, hp⟩, hl⟩ := hs
    rw [gW_succ hx hp, txh_snoc] at hl
    obtain ⟨hl1, _⟩ := snoc_take (t := 0) hl hF
    refine (hnewer_some q hlw).mono ?_
    rintro e w' (⟨hn, rfl, hq, hc⟩ | ⟨i, y, hn, _⟩)
    · exact ⟨rfl, hq, hc⟩
    · obtain ⟨hji, hjl, hjp, hg⟩ := prev_some hn
      rw [hg, gW_succ hjl hjp, txh_snoc] at hl1
      have := congrArg List.length hl1
      simp at this
theorem StW.zero {d b : List UInt8} {L : List (List UInt8)} {K : Option HW} (hs : StW d b L [] K) : K = none := by
  cases K with
  | none => rfl
  | some k =>
    obtain ⟨rfl, rfl, ⟨x, hx, hp⟩, hl⟩ := hs
    rw [gW_succ hx hp, txh_snoc] at hl
    simp at hl
theorem StW.full {d b : List UInt8} {L l : List (List UInt8)} {K : Option HW} (h : StW d b L l K) : StW d b L (l.take l.length) K := by rw [List.take_length]; exact h
end Go.Proofs.YtfjifbacclkmmaaDoor
