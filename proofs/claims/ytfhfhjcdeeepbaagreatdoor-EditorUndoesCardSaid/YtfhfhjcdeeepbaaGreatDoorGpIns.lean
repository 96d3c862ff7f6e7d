/-
  Walk: Insert.
-/
import Derived.Test.YtfhfhjcdeeepbaaGreatDoorGpNew
namespace Go.Proofs.YtfhfhjcdeeepbaaGreatDoor
open Go.RowKit Go.Sort
set_option linter.unusedVariables false
set_option linter.unusedSimpArgs false

theorem sv_at {w : World} {B : Nat} {X : Option Addr} {l : List (List UInt8)} (h : Sl w B X (sv l)) {k : Nat} (hk : k < l.length) : ∃ b off, X = some ⟨b, off, none⟩ ∧ b < B ∧ w.cell? ⟨b, off + k, none⟩ = some (.string ⟨(l[k]).toArray⟩) := by
  obtain ⟨b, off, rfl, hb, hc⟩ := h.open_ (by rw [sv_length]; omega)
  exact ⟨b, off, rfl, hb, hc k _ (sv_get hk)⟩

set_option maxRecDepth 100000 in
set_option maxHeartbeats 4000000 in
theorem ginsert_arg {w : World} {lo g n C most f t : Nat} {A : Option Addr} {p s : List (List UInt8)} (h : GpAt w lo g A n C most f t p s) (hT : Tabs w) (l : List (List UInt8)) (X : Option Addr) (m d : Nat) (hm : m = l.length) (hm5 : m ≤ 1000000) (hX : Sl w w.heap.size X (sv l)) (hlen : ∀ c ∈ l, c.length ≤ 4000000)
    (hc : ¬ ∀ c ∈ l, isC c = true) :
    Calls Tryz.prog 70 #[.pointer (some ⟨g, 0, none⟩), .slice X m d] w fun e w' => e = .returned (.int .i64 1) ∧ Below w.heap.size w w' := by
  have h0 := h.c0
  have HM := Lib.hid hm
  have HX := Lib.hid hX
  have HT := Lib.hid hT
  have HLEN := Lib.hid hlen
  have HC := Lib.hid hc
  have HS : Hid (∀ c : List UInt8, (⟨c.toArray⟩ : ByteArray).size = c.length) := Lib.hid size_of
  clear h hm hX hT hlen hc
  go_enter Tryz.func70, Tryz.ntmps70
  go_wp2_with (go_at_call 40; refine (gmade_yes g w h0).mono ?_; rintro e w' ⟨rfl, rfl⟩)
  go_loopw [12] (fun v wr => ∃ k : Nat, v = .int .i64 k ∧ k ≤ m ∧ (∀ c ∈ l.take k, isC c = true) ∧ Below w.heap.size w wr) (fun v _ => m - (intOf v).toNat)
  case atStart => exact ⟨0, rfl, by omega, by simp, Below.refl _ _⟩
  case round =>
    obtain ⟨k, rfl, hk, hall, hb⟩ := hrel
    have HALL := Lib.hid hall
    have HB := Lib.hid hb
    clear hall hb
    by_cases hlt : k < m
    · have hki : (k : Int) < m := by omega
      have hkl : k < l.length := by have := HM.out; omega
      obtain ⟨b, off, rfl, hbb, hcell⟩ := sv_at HX.out hkl
      have hcr := (HB.out.cell (p := ⟨b, off + k, none⟩) hbb).trans hcell
      have hts : l.take (k + 1) = l.take k ++ [l[k]] := List.take_succ_eq_append_getElem hkl
      have hlc := HLEN.out _ (List.getElem_mem hkl)
      generalize l[k] = c at hcr hts hlc
      have HTS := Lib.hid hts
      have HLC : Hid ((⟨c.toArray⟩ : ByteArray).size ≤ 4000000) := Lib.hid (by rw [HS.out]; exact hlc)
      have HTr := Lib.hid (HT.out.below HB.out)
      clear hcell hts hlc
      cases hi : isC c with
      | true =>
        have HI := Lib.hid hi
        clear hi
        go_wp2_with (go_at_call 92; refine (cis_any _ HLC.out _ HTr.out).mono ?_; rintro e w2 ⟨rfl, hb2⟩; rw [show isC (⟨c.toArray⟩ : ByteArray).data.toList = true from HI.out])
        go_roundw
        case rel => exact ⟨k + 1, by go_num, by omega, by
          rw [HTS.out]
          intro x hx
          rcases List.mem_append.1 hx with hx | hx
          · exact HALL.out x hx
          · obtain rfl : x = c := by simpa using hx
            exact HI.out, HB.out.trans (hb2.mono HB.out.size)⟩
        case measure => simp [intOf]; omega
      | false =>
        have HI := Lib.hid hi
        clear hi
        go_wp2_with (go_at_call 92; refine (cis_any _ HLC.out _ HTr.out).mono ?_; rintro e w2 ⟨rfl, hb2⟩; rw [show isC (⟨c.toArray⟩ : ByteArray).data.toList = false from HI.out])
        go_ret
        exact ⟨rfl, HB.out.trans (hb2.mono HB.out.size)⟩
    · exfalso
      refine HC.out ?_
      have : l.take k = l := List.take_of_length_le (by have := HM.out; omega)
      rw [← this]
      exact HALL.out

set_option maxRecDepth 100000 in
set_option maxHeartbeats 4000000 in
theorem ginsert_many {w : World} {lo g n C most f t : Nat} {A : Option Addr} {p s : List (List UInt8)} (h : GpAt w lo g A n C most f t p s) (hT : Tabs w) (l : List (List UInt8)) (X : Option Addr) (m d : Nat) (hm : m = l.length) (hm5 : m ≤ 1000000) (hX : Sl w w.heap.size X (sv l)) (hlen : ∀ c ∈ l, c.length ≤ 4000000)
    (hc : ∀ c ∈ l, isC c = true) (hmost : most - ln p s < m) :
    Calls Tryz.prog 70 #[.pointer (some ⟨g, 0, none⟩), .slice X m d] w fun e w' => e = .returned (.int .i64 3) ∧ Below w.heap.size w w' := by
  have h0 := h.c0
  have H := Lib.hid h
  have HM := Lib.hid hm
  have HX := Lib.hid hX
  have HT := Lib.hid hT
  have HLEN := Lib.hid hlen
  have HC := Lib.hid hc
  have HS : Hid (∀ c : List UInt8, (⟨c.toArray⟩ : ByteArray).size = c.length) := Lib.hid size_of
  obtain ⟨room, hroom⟩ : ∃ room, room = most - ln p s := ⟨_, rfl⟩
  rw [← hroom] at hmost
  have hmi : (m : Int) > (room : Int) := by omega
  have HR := Lib.hid hroom
  clear h hm hX hT hlen hc hroom
  go_enter Tryz.func70, Tryz.ntmps70
  go_wp2_with (go_at_call 40; refine (gmade_yes g w h0).mono ?_; rintro e w' ⟨rfl, rfl⟩)
  go_loopw [12] (fun v wr => ∃ k : Nat, v = .int .i64 k ∧ k ≤ m ∧ Below w.heap.size w wr) (fun v _ => m - (intOf v).toNat)
  case atStart => exact ⟨0, rfl, by omega, Below.refl _ _⟩
  case round =>
    obtain ⟨k, rfl, hk, hb⟩ := hrel
    have HB := Lib.hid hb
    clear hb
    by_cases hlt : k < m
    · have hki : (k : Int) < m := by omega
      have hkl : k < l.length := by have := HM.out; omega
      obtain ⟨b, off, rfl, hbb, hcell⟩ := sv_at HX.out hkl
      have hcr := (HB.out.cell (p := ⟨b, off + k, none⟩) hbb).trans hcell
      have hlc := HLEN.out _ (List.getElem_mem hkl)
      have hi := HC.out _ (List.getElem_mem hkl)
      generalize l[k] = c at hcr hlc hi
      have HLC : Hid ((⟨c.toArray⟩ : ByteArray).size ≤ 4000000) := Lib.hid (by rw [HS.out]; exact hlc)
      have HTr := Lib.hid (HT.out.below HB.out)
      have HI := Lib.hid hi
      clear hcell hlc hi
      go_wp2_with (go_at_call 92; refine (cis_any _ HLC.out _ HTr.out).mono ?_; rintro e w2 ⟨rfl, hb2⟩; rw [show isC (⟨c.toArray⟩ : ByteArray).data.toList = true from HI.out])
      go_roundw
      case rel => exact ⟨k + 1, by go_num, by omega, HB.out.trans (hb2.mono HB.out.size)⟩
      case measure => simp [intOf]; omega
    · have hki : ¬ (k : Int) < m := by omega
      have Hr := Lib.hid (H.out.below HB.out)
      go_wp2_with (go_at_call 68; refine (groom_any Hr.out).mono ?_; rintro e w2 ⟨rfl, hb2⟩; rw [← HR.out])
      go_ret
      exact ⟨rfl, HB.out.trans (hb2.mono HB.out.size)⟩

/-- what Insert leaves -/
def InsP (w : World) (lo g : Nat) (A : Option Addr) (most : Nat) (p s : List (List UInt8)) (e : Ending) (w' : World) : Prop :=
  e = .returned (.int .i64 0) ∧ ∃ A' n' C' t', GpAt w' lo g A' n' C' most p.length t' p s ∧ Chg (GpOwn g A) w w' ∧ ∀ k, blk A' = some k → blk A = some k ∨ w.heap.size ≤ k
set_option maxRecDepth 100000 in
set_option maxHeartbeats 4000000 in
theorem ginsert_ok {w : World} {lo g n C most f t : Nat} {A : Option Addr} {p s : List (List UInt8)} (h : GpAt w lo g A n C most f t p s) (hT : Tabs w) (l : List (List UInt8)) (X : Option Addr) (m d : Nat) (hm : m = l.length) (hm5 : m ≤ 1000000) (hX : Sl w w.heap.size X (sv l)) (hXg : ∀ b off, X = some ⟨b, off, none⟩ → b ≠ g) (hlen : ∀ c ∈ l, c.length ≤ 4000000)
    (hc : ∀ c ∈ l, isC c = true) (hmost : m ≤ most - ln p s) :
    Calls Tryz.prog 70 #[.pointer (some ⟨g, 0, none⟩), .slice X m d] w (InsP w lo g A most (p ++ l) s) := by
  have h0 := h.c0
  have hln := h.ln_le
  have H := Lib.hid h
  have HM := Lib.hid hm
  have HX := Lib.hid hX
  have HXG := Lib.hid hXg
  have HT := Lib.hid hT
  have HLEN := Lib.hid hlen
  have HC := Lib.hid hc
  have HS : Hid (∀ c : List UInt8, (⟨c.toArray⟩ : ByteArray).size = c.length) := Lib.hid size_of
  obtain ⟨room, hroom⟩ : ∃ room, room = most - ln p s := ⟨_, rfl⟩
  have hml : ln p s + m ≤ most := by omega
  rw [← hroom] at hmost
  have hmi : ¬ ((m : Int) > (room : Int)) := by omega
  have HR := Lib.hid hroom
  clear h hm hX hXg hT hlen hc hroom
  go_enter Tryz.func70, Tryz.ntmps70
  go_wp2_with (go_at_call 40; refine (gmade_yes g w h0).mono ?_; rintro e w' ⟨rfl, rfl⟩)
  go_loopw [12] (fun v wr => ∃ k : Nat, v = .int .i64 k ∧ k ≤ m ∧ Below w.heap.size w wr) (fun v _ => m - (intOf v).toNat)
  case atStart => exact ⟨0, rfl, by omega, Below.refl _ _⟩
  case round =>
    obtain ⟨k, rfl, hk, hb⟩ := hrel
    have HB := Lib.hid hb
    clear hb
    by_cases hlt : k < m
    · have hki : (k : Int) < m := by omega
      have hkl : k < l.length := by have := HM.out; omega
      obtain ⟨b, off, rfl, hbb, hcell⟩ := sv_at HX.out hkl
      have hcr := (HB.out.cell (p := ⟨b, off + k, none⟩) hbb).trans hcell
      have hlc := HLEN.out _ (List.getElem_mem hkl)
      have hi := HC.out _ (List.getElem_mem hkl)
      generalize l[k] = c at hcr hlc hi
      have HLC : Hid ((⟨c.toArray⟩ : ByteArray).size ≤ 4000000) := Lib.hid (by rw [HS.out]; exact hlc)
      have HTr := Lib.hid (HT.out.below HB.out)
      have HI := Lib.hid hi
      clear hcell hlc hi
      go_wp2_with (go_at_call 92; refine (cis_any _ HLC.out _ HTr.out).mono ?_; rintro e w2 ⟨rfl, hb2⟩; rw [show isC (⟨c.toArray⟩ : ByteArray).data.toList = true from HI.out])
      go_roundw
      case rel => exact ⟨k + 1, by go_num, by omega, HB.out.trans (hb2.mono HB.out.size)⟩
      case measure => simp [intOf]; omega
    · have hki : ¬ (k : Int) < m := by omega
      have Hr := Lib.hid (H.out.below HB.out)
      go_wp2_with (go_at_call 68; refine (groom_any Hr.out).mono ?_; rintro e w2 ⟨rfl, hb2⟩; rw [← HR.out])
      have HB2 := Lib.hid (HB.out.trans (hb2.mono HB.out.size))
      have H2 := Lib.hid (Hr.out.below hb2)
      have k1 := cell_regrown H2.out.c1
      clear hb2
      refine wp_region_below_tail 8 (by kernel_rfl) (by kernel_rfl) ?_
      simp only [List.take_succ_cons, List.take_zero, List.drop_succ_cons, List.drop_zero]
      repeat (first
        | go_big_quiet_step (fail)
        | quiet_step (fail))
      refine wpQuiet_nil ?_
      intro _ hw'
      obtain ⟨⟨dq, osq⟩, hw''⟩ := hw'
      subst hw''
      have HBQ := Lib.hid (HB2.out.trans ((below_regrown w2 dq osq).mono HB2.out.size))
      have H3 := Lib.hid (H2.out.below (below_regrown w2 dq osq))
      clear k1
      generalize grow (redrawn w2 dq) osq = w3 at *
      go_wp2_with (go_at_call 93; refine (fill_any H3.out l X m d HM.out ((HX.out.below HBQ.out).more HBQ.out.size) HXG.out HC.out hml).mono ?_; rintro e w4 ⟨rfl, A', n', C', t', hg4, hc4, hA4⟩)
      go_ret
      exact ⟨rfl, A', n', C', t', hg4, (Chg.of_below (S := GpOwn g A) HBQ.out).trans hc4 (fun _ h => .inl h), fun k hk => (hA4 k hk).imp id (fun h => Nat.le_trans HBQ.out.size h)⟩
end Go.Proofs.YtfhfhjcdeeepbaaGreatDoor
