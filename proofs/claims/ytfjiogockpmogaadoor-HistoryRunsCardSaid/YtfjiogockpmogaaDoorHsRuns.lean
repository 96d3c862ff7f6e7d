/-
  Walk: HistoryRuns.
-/
import Derived.Test.YtfjiogockpmogaaDoorHsStepA
import Derived.Test.YtfjiogockpmogaaDoorHsStepN
import Derived.Test.YtfjiogockpmogaaDoorHsStepO
import Derived.Test.YtfjiogockpmogaaDoorHsAwake
namespace Go.Proofs.YtfjiogockpmogaaDoor
open Go.RowKit Go.Sort
set_option linter.unusedVariables false
set_option linter.unusedSimpArgs false
set_option maxRecDepth 100000

theorem step_anyH {w : World} {lo h c most : Nat} {A : Option Addr} {L : List (List UInt8)} {K : Option HW} (q : HsAt w lo h A c most L K) (hlw : lo ≤ w.heap.size) (rA : Option Addr) (n rc : Nat) (hR : RowH w h rA n rc L) (hKB : KB K) (kd : Int) (s1 s2 : ByteArray) (hd0 : 0 ≤ kd) (hd1 : kd ≤ 255) (hs1 : s1.size ≤ maxLen) (hs2 : s2.size ≤ maxLen) (hT : Tabs w) (hTl : TLo lo) :
    Calls Tryd.prog 10 #[.pointer (some ⟨h, 0, none⟩), .agg (rvC most rA n rc K).toArray, .agg #[.int .u8 kd, .string s1, .string s2]] w (StepH w lo h most A K rA) := by
  by_cases h3 : kd % 8 = 3
  · exact step_older3 q hlw rA n rc hR hKB kd s1 s2 hd0 hd1 hs1 hs2 h3
  by_cases h4 : kd % 8 = 4
  · exact step_older4 q hlw rA n rc hR hKB kd s1 s2 hd0 hd1 hs1 hs2 h4
  by_cases h5 : kd % 8 = 5
  · cases K with
    | none => exact step_newer0 q hlw rA n rc hR hKB kd s1 s2 hd0 hd1 h5
    | some k0 => exact step_newer1 q hlw rA n rc hR hKB kd s1 s2 hd0 hd1 h5
  by_cases h6 : kd % 8 = 6
  · exact step_leave q hlw rA n rc hR hKB kd s1 s2 hd0 hd1 h6
  exact step_add q hlw rA n rc hR hKB kd s1 s2 hd0 hd1 hs1 hT hTl (by omega)
theorem splice_whole {α : Type} {a b : List α} (h : a.length = b.length) : splice a 0 b = b := by
  simp [splice, ← h]
/-- both histories between two rounds -/
structure HRun (w : World) (rb most h : Nat) (A : Option Addr) (c : Nat) (L : List (List UInt8)) (K : Option HW) (rA : Option Addr) (n rc : Nat) (X : World) : Prop where
  hs : HsAt X w.heap.size h A c most L K
  row : RowH X h rA n rc L
  kb : KB K
  bx : Blk X rb 29 (rvC most rA n rc K)
  nb : ¬ HsAt.Own h A K rb
  nr : ∀ k, blk rA = some k → k ≠ rb
  wr : w.heap.size ≤ rb
  bel : Below w.heap.size w X
theorem HRun.below {w X Y : World} {rb most h c n rc : Nat} {A rA : Option Addr} {L : List (List UInt8)} {K : Option HW} (q : HRun w rb most h A c L K rA n rc X) (hb : Below X.heap.size X Y) : HRun w rb most h A c L K rA n rc Y :=
  ⟨q.hs.below hb, q.row.chg (Chg.of_below (S := noB) hb) (fun _ _ h => h), q.kb, q.bx.below hb q.bx.lt, q.nb, q.nr, q.wr, q.bel.trans (hb.mono q.bel.size)⟩
/-- what a step leaves, behind the store of the document's history -/
theorem HRun.stepped {w X X5 F : World} {rb most h c n rc c' n' rc' : Nat} {A rA A' rA' : Option Addr} {L L' : List (List UInt8)} {K K' : Option HW} (q : HRun w rb most h A c L K rA n rc X)
    (hq : HsAt X5 w.heap.size h A' c' most L' K') (hc : Chg (one h) X X5) (hR : RowH X5 h rA' n' rc' L') (hK : KB K') (hO : OwnN X h A K h A' K') (hN : ∀ k, blk rA' = some k → blk rA = some k ∨ X.heap.size ≤ k)
    (hF : Chg (one rb) X5 F) (hbx : Blk F rb 29 (rvC most rA' n' rc' K')) : HRun w rb most h A' c' L' K' rA' n' rc' F := by
  have hrb := q.bx.lt
  have hnb : ¬ HsAt.Own h A' K' rb := fun hk => by
    rcases hO rb hk with h1 | h1
    · exact q.nb h1
    · omega
  have hnr : ∀ k, blk rA' = some k → k ≠ rb := fun k hk => by
    rcases hN k hk with h1 | h1
    · exact q.nr k h1
    · omega
  exact ⟨hq.keep hF (fun k hk e => hnb (by rw [← show k = rb from e]; exact hk)), hR.chg hF (fun k hk e => hnr k hk e), hK, hbx, hnb, hnr, q.wr,
    q.bel.trans ((hc.below q.bel.size (fun k e => by rw [show k = h from e]; exact q.hs.lo)).trans (hF.below (Nat.le_trans q.bel.size hc.size) (fun k e => by rw [show k = rb from e]; exact q.wr)))⟩
theorem HRun.forked {w X Y : World} {rb most h h' c c' n rc : Nat} {A A' rA : Option Addr} {L : List (List UInt8)} {K : Option HW} (q : HRun w rb most h A c L K rA n rc X) (hq : HsAt Y w.heap.size h' A' c' most L K) (hc : Chg (one h) X Y) (hO : OwnN X h A K h' A' K) (hh : X.heap.size ≤ h') : HRun w rb most h' A' c' L K rA n rc Y := by
  have hrb := q.bx.lt
  have hne : rb ≠ h := fun e => q.nb (.inl e)
  refine ⟨hq, ⟨q.row.len, (hc.sl q.row.s (Nat.le_refl _) (fun b off e he => (q.row.ap b (by rw [e]; rfl)).1 he)).more hc.size, q.row.nc, fun k hk => ?_, q.row.nd⟩, q.kb, q.bx.chg hc hne, fun hk => ?_, q.nr, q.wr, q.bel.trans (hc.below q.bel.size (fun k e => by rw [show k = h from e]; exact q.hs.lo))⟩
  · have h1 := (q.row.ap k hk).2
    have h2 := hc.size
    constructor <;> omega
  · rcases hO rb hk with h1 | h1
    · exact q.nb h1
    · omega
def HRel (w : World) (rb most nn : Nat) (v9 v13 : Value) (X : World) : Prop :=
  ∃ (k h : Nat) (A : Option Addr) (c : Nat) (L : List (List UInt8)) (K : Option HW) (rA : Option Addr) (n rc : Nat), v9 = .pointer (some ⟨h, 0, none⟩) ∧ v13 = .int .i64 k ∧ k ≤ nn ∧ k ≤ 60 ∧ HRun w rb most h A c L K rA n rc X
theorem rangeH {V : World} {b o : Nat} {cs : List Value} (h : ∀ j v, cs[j]? = some v → V.cell? ⟨b, o + j, none⟩ = some v) : V.rangeAt b o cs := h
/-- what the law's step reads stands -/
def SStp (h : Nat) (a b : World) : Prop := Chg (one h) a b

set_option maxHeartbeats 16000000 in
theorem historyRuns_ok (most : Nat) (h1 : 1 ≤ most) (h2 : most ≤ 256) (l : List OpH) (nn c0 : Nat) (AA : Option Addr) (hn : nn = l.length) (hm : nn ≤ maxLen) (at_ : Int) (st : Nat) (hst : st ≤ 255) (w : World) (hok : ∀ o ∈ l, o.ok) (hS : Sl w w.heap.size AA (ohc l)) (hT : Tabs w) (hTl : TLo w.heap.size) :
    Calls Tryd.prog 3 #[.int .i64 most, .slice AA nn c0, .int .i64 at_, .int .u8 st] w fun e w' => e = .returned (.bool true) ∧ Below w.heap.size w w' := by
  unfold maxLen at hm
  have HT := Lib.hid hT
  have HTL := Lib.hid hTl
  have HOK := Lib.hid hok
  have HS := Lib.hid hS
  have HN := Lib.hid hn
  have hq1 := fun V => rhnew_ok most h1 h2 V
  simp only [rvC, rwC] at hq1
  have HQ1 := Lib.hid hq1
  clear hT hTl hok hS hn hq1
  go_enter Tryd.func3, Tryd.ntmps3
  go_wp2_with (fail)
  refine (hnew_ok most h1 h2 w).mono ?_
  rintro e w1 ⟨h, rfl, hg, hb1⟩
  have HG1 := Lib.hid hg
  have HB1 := Lib.hid hb1
  clear hg hb1
  go_wp2_with (fail)
  refine (HQ1.out _).mono ?_
  rintro e w2 ⟨rfl, hb2⟩
  obtain ⟨W3, hW3⟩ : ∃ W3, W3 = w2.alloc (.cells #[.int .i64 most, .slice none 0 0, .bool false, .string ⟨#[]⟩, .string ⟨#[]⟩, .int .i64 0] 29) := ⟨_, rfl⟩
  have hb23 : Below w2.heap.size w2 W3 := by rw [hW3]; exact (Below.refl _ _).alloc (Nat.le_refl _) _
  have hbx : Blk W3 w2.heap.size 29 (rvC most none 0 0 none) := by rw [hW3]; exact Blk.new w2 _ _
  have hg3 := (HG1.out.below hb2).below hb23
  have hb13 : Below w.heap.size w W3 := HB1.out.trans ((hb2.trans (hb23.mono hb2.size)).mono HB1.out.size)
  have hlt2 : ∀ k, HsAt.Own h none none k → k < w2.heap.size := fun k hk => Nat.lt_of_lt_of_le (HG1.out.own_lt k hk).2 hb2.size
  have hR0 : HRun w w2.heap.size most h none 0 [] none none 0 0 W3 :=
    ⟨hg3, ⟨rfl, .inl rfl, Nat.le_refl _, fun k hk => by simp [blk] at hk, List.nodup_nil⟩, (fun k hk => by cases hk), hbx, fun hk => Nat.lt_irrefl _ (hlt2 _ hk), (fun k hk => by simp [blk] at hk), Nat.le_trans HB1.out.size hb2.size, hb13⟩
  have HR0 := Lib.hid hR0
  obtain ⟨rb, hrb⟩ : ∃ rb, rb = w2.heap.size := ⟨_, rfl⟩
  rw [← hrb] at HR0
  clear hb2 hb23 hbx hg3 hb13 hlt2 hR0
  go_wp2_with (fail)
  rw [← hrb, ← hW3]
  clear hrb hW3
  refine (hawake_any _ (HT.out.below HR0.out.bel)).mono ?_
  rintro e w4 ⟨rfl, hb4⟩
  have HR4 := Lib.hid (HR0.out.below hb4)
  clear hb4
  go_wp2_with (fail)
  go_loopw [9, 13] (fun v9 v13 wr => HRel w rb most nn v9 v13 wr) (fun _ v _ => (60 - intOf v).toNat)
  case atStart => exact ⟨0, h, none, 0, [], none, none, 0, 0, rfl, rfl, Nat.zero_le _, Nat.zero_le _, HR4.out⟩
  case round =>
    obtain ⟨k, h, A, c, L, K, rA, n, rc, rfl, rfl, hkn, hk60, hr⟩ := hrel
    have HR := Lib.hid hr
    clear hr
    by_cases hg : k < nn ∧ k < 60
    · obtain ⟨hg1, hg2⟩ := hg
      have hgi1 : (k : Int) < nn := by omega
      have hgi2 : (k : Int) < 60 := by omega
      have hkl : k < l.length := by have := HN.out; omega
      obtain ⟨o, hx⟩ : ∃ o, l[k]? = some o := ⟨l[k], List.getElem?_eq_getElem hkl⟩
      have hoo := HOK.out o (List.mem_of_getElem? hx)
      obtain ⟨ab, off, rfl, hab, hcell⟩ := HS.out.open_ (by rw [ohc_length]; omega)
      have hcl : ∀ V, Below w.heap.size w V → ∀ j v, o.cells[j]? = some v → V.cell? ⟨ab, off + k * 3 + j, none⟩ = some v := fun V hV j v hv => by
        rw [Nat.add_assoc]
        exact (hV.cell (p := ⟨ab, off + (k * 3 + j), none⟩) hab).trans (hcell _ v (ohc_get hx hv))
      have HCL := Lib.hid hcl
      have hd0 := hoo.d0
      have hd1 := hoo.d1
      have hl1 := hoo.s
      have hl2 := hoo.t
      clear hx hoo hcell hcl
      obtain ⟨kd, s1, s2⟩ := o
      simp only at hd0 hd1 hl1 hl2
      have HL1 := Lib.hid hl1
      have HL2 := Lib.hid hl2
      clear hl1 hl2
      have e0 : wr.cell? ⟨ab, off + k * 3, none⟩ = some (.int .u8 kd) := HCL.out wr HR.out.bel 0 _ rfl
      have SHOW : ∀ (h' : Nat) (A' : Option Addr) (c' : Nat) (L' : List (List UInt8)) (K' : Option HW) (rA' : Option Addr) (n' rc' : Nat) (V : World), HRun w rb most h' A' c' L' K' rA' n' rc' V → ∀ cs, rvC most rA' n' rc' K' = cs → Calls Tryd.prog 11 #[.pointer (some ⟨h', 0, none⟩), .agg cs.toArray, .int .i64 at_, .int .i64 st] V fun e w' => e = .returned (.bool true) ∧ Below V.heap.size V w' := fun h' A' c' L' K' rA' n' rc' V hV cs hcs => by
        rw [← hcs]
        exact hshows_any hV.hs rA' n' rc' hV.row.len hV.row.s hV.row.nc at_ st hst
      have HSHOW := Lib.hid SHOW
      clear SHOW
      by_cases h7 : kd % 8 = 7
      · have hq : (kd % 8 == 7) = true := by rw [h7]; rfl
        have HF := Lib.hid (hforked_any HR.out.hs HR.out.bel.size (HT.out.below HR.out.bel) HTL.out)
        clear h7
        go_wp2_with (fail)
        refine HF.out.mono ?_
        rintro e w5 ⟨h5, A5, c5, rfl, hq5, hc5, ho5, hh5⟩
        have HR6 := Lib.hid (HR.out.forked hq5 hc5 ho5 hh5)
        clear hq5 hc5 ho5 hh5
        obtain ⟨v2, v3, v4, v5, hv⟩ := rvC_cells most rA n rc K
        have HV := Lib.hid hv
        have hB := HR6.out.bx
        rw [hv] at hB
        clear hv
        have k0 := hB.cell 0
        have k1 := hB.cell 1
        have k2 := hB.cell 2
        have k3 := hB.cell 3
        have k4 := hB.cell 4
        have k5 := hB.cell 5
        clear hB
        simp only [List.getElem?_cons_succ, List.getElem?_cons_zero] at k0 k1 k2 k3 k4 k5
        have hlen : L.length ≤ most := HR6.out.hs.le
        go_wp2_with (fail)
        refine (HSHOW.out _ _ _ _ _ _ _ _ _ HR6.out _ HV.out).mono ?_
        rintro e w6 ⟨rfl, hb6⟩
        have HR7 := Lib.hid (HR6.out.below hb6)
        clear hb6 k0 k1 k2 k3 k4 k5
        go_wp2_with (fail)
        refine (hlen_any HR7.out.hs).mono ?_
        rintro e w' ⟨rfl, rfl⟩
        have HR8 := HR7
        have hleni : ¬ ((most : Int) < (L.length : Int)) := by omega
        have htold := told_yes HR8.out.hs 1000
        rw [show L.take 1000 = L from List.take_of_length_le (by have := HR8.out.hs.len4; omega)] at htold
        have HTOLD := Lib.hid htold
        clear htold
        go_wp2_with (fail)
        refine HTOLD.out.mono ?_
        rintro e w9 ⟨A9, c9, rfl, ho9, hb9⟩
        have HO9 := Lib.hid ho9
        have HR9 := Lib.hid (HR8.out.below hb9)
        clear ho9 hb9 hlen hleni
        go_wp2_with (fail)
        refine (once_any L HR9.out.row.nd A9 L.length c9 rfl (by have := HR9.out.hs.len4; omega) _ HO9.out.sl).mono ?_
        rintro e w10 ⟨rfl, hb10⟩
        go_wp2_with (fail)
        go_roundw
        case rel => exact ⟨k + 1, h5, A5, c5, L, K, rA, n, rc, rfl, by go_num, by omega, by omega, HR9.out.below hb10⟩
        case measure => simp [intOf]; omega
      · have hq : (kd % 8 == 7) = false := by simp; omega
        obtain ⟨u2, u3, u4, u5, hu⟩ := rvC_cells most rA n rc K
        have HRD := Lib.hid (HR.out.below ((Below.refl _ wr).drew))
        have hstep := step_anyH HRD.out.hs HRD.out.bel.size rA n rc HRD.out.row HRD.out.kb kd s1 s2 hd0 hd1 HL1.out HL2.out (HT.out.below HRD.out.bel) HTL.out
        rw [hu] at hstep
        have HSTEP := Lib.hid hstep
        have HU := Lib.hid hu
        have HRB : Hid (∀ V, SStp h wr V → Blk V rb 29 [.int .i64 most, .slice rA n rc, u2, u3, u4, u5] ∧ Below w.heap.size w V) := Lib.hid (fun V hV => ⟨by
          have hb := HR.out.bx.chg (hV : Chg (one h) wr V) (fun e => HR.out.nb (.inl e))
          rw [hu] at hb; exact hb, HR.out.bel.trans (Chg.below (hV : Chg (one h) wr V) HR.out.bel.size (fun j e => by rw [show j = h from e]; exact HR.out.hs.lo))⟩)
        clear hstep hu h7
        go_wp2_with (fail)
        have HSD : Hid ((fun V : World => SStp h wr V) wr.drew) := Lib.hid ((Chg.refl (one h) wr).drew)
        refine wp_region_K (fun V : World => SStp h wr V) 10 (by kernel_rfl) ?_
        refine wpAnyK_takeP (i := 0) (v := ?v0) rfl (by kernel_rfl) (by kernel_rfl) (by kernel_rfl) (by kernel_rfl) (fun _ _ _ h => h) (Or.inl ⟨by rfl, fun w hSw => ?hy0⟩) (.inr HSD.out) ?rest0
        case hy0 =>
          go_simp
          try with_reducible rfl
        change wpAnyK _ _ _ _ _ _ _ _ (Act.put _ (some 65) _) _
        try simp only [Act.put, List.setIfInBounds_toArray, List.set_cons_zero, List.set_cons_succ]
        refine wpAnyK_take (i := 1) (v := .agg #[.int .i64 most, .slice rA n rc, u2, u3, u4, u5]) rfl (by kernel_rfl) (by kernel_rfl) (by kernel_rfl) (by kernel_rfl) (fun _ _ _ h => h) (yieldsIf_load_mid (by rfl) _ _ rfl rb 0 rfl [.int .i64 most, .slice rA n rc, u2, u3, u4, u5] _ (fun w h => Blk.range (t := 29) (HRB.out w h).1 0 _ (fun j v hv => by simpa using hv)) Tryd.underlying29 rfl rh_size) HSD.out ?_
        change wpAnyK _ _ _ _ _ _ _ _ (Act.put _ (some 66) _) _
        try simp only [Act.put, List.setIfInBounds_toArray, List.set_cons_zero, List.set_cons_succ]
        refine wpAnyK_takeP (i := 2) (v := ?v2) rfl (by kernel_rfl) (by kernel_rfl) (by kernel_rfl) (by kernel_rfl) (fun _ _ _ h => h) (Or.inl ⟨by rfl, fun w hSw => ?hy2⟩) (.inr HSD.out) ?rest2
        case hy2 =>
          go_simp
          try with_reducible rfl
        change wpAnyK _ _ _ _ _ _ _ _ (Act.put _ (some 67) _) _
        try simp only [Act.put, List.setIfInBounds_toArray, List.set_cons_zero, List.set_cons_succ]
        refine wpAnyK_takeP (i := 3) (v := ?v3) rfl (by kernel_rfl) (by kernel_rfl) (by kernel_rfl) (by kernel_rfl) (fun _ _ _ h => h) (Or.inl ⟨by rfl, fun w hSw => ?hy3⟩) (.inr HSD.out) ?rest3
        case hy3 =>
          go_simp
          try with_reducible rfl
        change wpAnyK _ _ _ _ _ _ _ _ (Act.put _ (some 68) _) _
        try simp only [Act.put, List.setIfInBounds_toArray, List.set_cons_zero, List.set_cons_succ]
        refine wpAnyK_takeP (i := 4) (v := ?v4) rfl (by kernel_rfl) (by kernel_rfl) (by kernel_rfl) (by kernel_rfl) (fun _ _ _ h => h) (Or.inl ⟨by rfl, fun w hSw => ?hy4⟩) (.inr HSD.out) ?rest4
        case hy4 =>
          go_simp
          try with_reducible rfl
        change wpAnyK _ _ _ _ _ _ _ _ (Act.put _ (some 69) _) _
        try simp only [Act.put, List.setIfInBounds_toArray, List.set_cons_zero, List.set_cons_succ]
        refine wpAnyK_take (i := 5) (v := .agg #[.int .u8 kd, .string s1, .string s2]) rfl (by kernel_rfl) (by kernel_rfl) (by kernel_rfl) (by kernel_rfl) (fun _ _ _ h => h) (yieldsIf_load_mid (by rfl) _ _ rfl ab (off + k * 3) rfl [.int .u8 kd, .string s1, .string s2] _ (fun V hV => rangeH (fun j v hv => HCL.out V (HRB.out V hV).2 j v hv)) Tryd.underlying34 rfl oph_size) HSD.out ?_
        change wpAnyK _ _ _ _ _ _ _ _ (Act.put _ (some 70) _) _
        try simp only [Act.put, List.setIfInBounds_toArray, List.set_cons_zero, List.set_cons_succ]
        refine wpAnyK_only (i := 6) (by kernel_rfl) rfl (fun K hK => ?_)
        refine step_call rfl 10 _ _ rfl (enters_of Tryd.func10 (by kernel_rfl) rfl) #[.pointer (some ⟨h, 0, none⟩), .agg #[.int .i64 most, .slice rA n rc, u2, u3, u4, u5], .agg #[.int .u8 kd, .string s1, .string s2]] (by simp [Act.eval, Act.put]) HSTEP.out ?_
        rintro e w5 ⟨L6, K6, A6, c6, rA6, n6, rc6, rfl, hq6, hc6, hR6, hK6, hO6, hN6⟩
        refine ⟨_, rfl, ?_⟩
        have HSE : Hid ((fun V : World => SStp h wr V) w5) := Lib.hid (Chg.trans (HSD.out : Chg (one h) wr wr.drew) hc6 (fun _ h => .inl h))
        have HQ6 := Lib.hid hq6
        have HC6 := Lib.hid hc6
        have HRW6 := Lib.hid hR6
        have HK6 := Lib.hid hK6
        have HO6 := Lib.hid hO6
        have HN6 := Lib.hid hN6
        clear hq6 hc6 hR6 hK6 hO6 hN6
        refine hK.out _ _ (.inr HSE.out) ?_
        clear hK K
        change wpAnyK _ _ _ _ _ _ _ _ (Act.put _ (some 71) _) _
        try simp only [Act.put, List.setIfInBounds_toArray, List.set_cons_zero, List.set_cons_succ]
        refine wpAnyK_takeP (i := 7) (v := ?vz7) rfl (by kernel_rfl) (by kernel_rfl) (by kernel_rfl) (by kernel_rfl) (fun _ _ _ h => h) (Or.inl ⟨by rfl, fun w hSw => ?hyz7⟩) (.inr HSE.out) ?restz7
        case hyz7 =>
          go_simp
          try with_reducible rfl
        change wpAnyK _ _ _ _ _ _ _ _ (Act.put _ (some 64) _) _
        try simp only [Act.put, List.setIfInBounds_toArray, List.set_cons_zero, List.set_cons_succ]
        refine wpAnyK_takeP (i := 8) (v := ?vz8) rfl (by kernel_rfl) (by kernel_rfl) (by kernel_rfl) (by kernel_rfl) (fun _ _ _ h => h) (Or.inl ⟨by rfl, fun w hSw => ?hyz8⟩) (.inr HSE.out) ?restz8
        case hyz8 =>
          go_simp
          try with_reducible rfl
        change wpAnyK _ _ _ _ _ _ _ _ (Act.put _ (some 72) _) _
        try simp only [Act.put, List.setIfInBounds_toArray, List.set_cons_zero, List.set_cons_succ]
        refine wpAnyK_takeP (i := 9) (v := ?vz9) rfl (by kernel_rfl) (by kernel_rfl) (by kernel_rfl) (by kernel_rfl) (fun _ _ _ h => h) (Or.inl ⟨by rfl, fun w hSw => ?hyz9⟩) (.inr HSE.out) ?restz9
        case hyz9 =>
          go_simp
          try with_reducible rfl
        change wpAnyK _ _ _ _ _ _ _ _ (Act.put _ (some 73) _) _
        try simp only [Act.put, List.setIfInBounds_toArray, List.set_cons_zero, List.set_cons_succ]
        refine wpAnyK_only (i := 10) (by kernel_rfl) rfl (fun K hK => ?_)
        refine step_store_blkK rfl _ _ _ rfl rb 0 _ [.int .i64 most, .slice rA n rc, u2, u3, u4, u5] (rvC most rA6 n6 rc6 K6) (by simp [Act.eval, Act.put]) (by simp [Act.eval, Act.put]) (HRB.out _ HSE.out).1 (by rw [rvC_len]; simp) (by rw [rvC_len]; exact rh_size) (rvC_one _ _ _ _ _) ?_
        intro w8 hn8 hg8
        rw [splice_whole (by rw [rvC_len]; rfl)] at hn8
        have hc8 := chg_of_grown hg8
        have HR6 := Lib.hid (HRD.out.stepped HQ6.out HC6.out HRW6.out HK6.out HO6.out HN6.out hc8 hn8)
        refine hK.out _ _ (.inl (by kernel_rfl)) ?_
        clear hK K hn8 hg8 hc8
        try simp only [Act.put, List.setIfInBounds_toArray, List.set_cons_zero, List.set_cons_succ]
        refine wpAnyK_only (i := 11) (by kernel_rfl) rfl (fun K hK => ?_)
        go_simp
        refine hK.out _ _ (.inl (by kernel_rfl)) ?_
        clear hK K
        try simp only [Act.put, List.setIfInBounds_toArray, List.set_cons_zero, List.set_cons_succ]
        refine wpAnyK_done (by kernel_rfl) ?_ _
        obtain ⟨v2, v3, v4, v5, hv⟩ := rvC_cells most rA6 n6 rc6 K6
        have HV := Lib.hid hv
        have hB := HR6.out.bx
        rw [hv] at hB
        clear hv
        have k0 := hB.cell 0
        have k1 := hB.cell 1
        have k2 := hB.cell 2
        have k3 := hB.cell 3
        have k4 := hB.cell 4
        have k5 := hB.cell 5
        clear hB
        simp only [List.getElem?_cons_succ, List.getElem?_cons_zero] at k0 k1 k2 k3 k4 k5
        have hlen : L6.length ≤ most := HR6.out.hs.le
        go_wp2_with (fail)
        refine (HSHOW.out _ _ _ _ _ _ _ _ _ HR6.out _ HV.out).mono ?_
        rintro e w6 ⟨rfl, hb6⟩
        have HR7 := Lib.hid (HR6.out.below hb6)
        clear hb6 k0 k1 k2 k3 k4 k5
        go_wp2_with (fail)
        refine (hlen_any HR7.out.hs).mono ?_
        rintro e w' ⟨rfl, rfl⟩
        have HR8 := HR7
        have hleni : ¬ ((most : Int) < (L6.length : Int)) := by omega
        have htold := told_yes HR8.out.hs 1000
        rw [show L6.take 1000 = L6 from List.take_of_length_le (by have := HR8.out.hs.len4; omega)] at htold
        have HTOLD := Lib.hid htold
        clear htold
        go_wp2_with (fail)
        refine HTOLD.out.mono ?_
        rintro e w9 ⟨A9, c9, rfl, ho9, hb9⟩
        have HO9 := Lib.hid ho9
        have HR9 := Lib.hid (HR8.out.below hb9)
        clear ho9 hb9 hlen hleni
        go_wp2_with (fail)
        refine (once_any L6 HR9.out.row.nd A9 L6.length c9 rfl (by have := HR9.out.hs.len4; omega) _ HO9.out.sl).mono ?_
        rintro e w10 ⟨rfl, hb10⟩
        go_wp2_with (fail)
        go_roundw
        case rel => exact ⟨k + 1, h, A6, c6, L6, K6, rA6, n6, rc6, rfl, by go_num, by omega, by omega, HR9.out.below hb10⟩
        case measure => simp [intOf]; omega
    · have HBL := Lib.hid HR.out.bel
      by_cases hg1 : k < nn
      · have hgi1 : (k : Int) < nn := by omega
        have hgi2 : ¬ (k : Int) < 60 := by omega
        clear hg
        go_wp2_with (fail)
        go_ret
        exact ⟨rfl, HBL.out⟩
      · have hgi1 : ¬ (k : Int) < nn := by omega
        clear hg
        go_wp2_with (fail)
        go_ret
        exact ⟨rfl, HBL.out⟩
set_option maxHeartbeats 4000000 in
theorem historyRuns_no (most : Int) (h : ¬ (1 ≤ most ∧ most ≤ 256)) (nn c : Nat) (AA : Option Addr) (hm : nn ≤ maxLen) (at_ : Int) (st : Int) (w : World) (hT : Tabs w) :
    Calls Tryd.prog 3 #[.int .i64 most, .slice AA nn c, .int .i64 at_, .int .u8 st] w fun e w' => e = .returned (.bool true) ∧ Below w.heap.size w w' := by
  unfold maxLen at hm
  have HT := Lib.hid hT
  have HQ0 := Lib.hid (hnew_no most h w)
  have hq1 := rhnew_no most h w
  simp only [rvC, rwC] at hq1
  have HQ1 := Lib.hid hq1
  clear hT hq1 h
  go_enter Tryd.func3, Tryd.ntmps3
  go_wp2_with (fail)
  refine HQ0.out.mono ?_
  rintro e w1 ⟨rfl, rfl⟩
  go_wp2_with (fail)
  refine HQ1.out.mono ?_
  rintro e w2 ⟨rfl, hb2⟩
  have HB2 := Lib.hid (hb2.alloc hb2.size (.cells #[.int .i64 0, .slice none 0 0, .bool false, .string ⟨#[]⟩, .string ⟨#[]⟩, .int .i64 0] 29))
  clear hb2
  go_wp2_with (fail)
  refine (hawake_any _ (HT.out.below HB2.out)).mono ?_
  rintro e w4 ⟨rfl, hb4⟩
  have HB4 := Lib.hid (HB2.out.trans (hb4.mono HB2.out.size))
  clear hb4
  by_cases h0 : 0 < nn
  · have h0i : (0 : Int) < nn := by omega
    go_wp2_with (fail)
    go_loopw [9, 13] (fun v9 v wr => v9 = .pointer none ∧ v = .int .i64 0 ∧ Below w.heap.size w wr) (fun _ _ _ => 0)
    case atStart => exact ⟨rfl, rfl, HB4.out⟩
    case round =>
      obtain ⟨rfl, rfl, hbr⟩ := hrel
      have HBR := Lib.hid hbr
      clear hbr
      go_wp2_with (fail)
      go_ret
      exact ⟨rfl, HBR.out⟩
  · have h0i : ¬ (0 : Int) < nn := by omega
    go_wp2_with (fail)
    go_loopw [9, 13] (fun v9 v wr => v9 = .pointer none ∧ v = .int .i64 0 ∧ Below w.heap.size w wr) (fun _ _ _ => 0)
    case atStart => exact ⟨rfl, rfl, HB4.out⟩
    case round =>
      obtain ⟨rfl, rfl, hbr⟩ := hrel
      have HBR := Lib.hid hbr
      clear hbr
      go_wp2_with (fail)
      go_ret
      exact ⟨rfl, HBR.out⟩
theorem historyRuns_walk (most : Int) (l : List OpH) (nn c : Nat) (AA : Option Addr) (hn : nn = l.length) (hm : nn ≤ maxLen) (at_ : Int) (st : Int) (h0 : 0 ≤ st) (h1 : st ≤ 255) (w : World) (hok : ∀ o ∈ l, o.ok) (hS : Sl w w.heap.size AA (ohc l)) (hT : Tabs w) (hTl : TLo w.heap.size) :
    Calls Tryd.prog 3 #[.int .i64 most, .slice AA nn c, .int .i64 at_, .int .u8 st] w fun e w' => e = .returned (.bool true) ∧ Below w.heap.size w w' := by
  by_cases h : 1 ≤ most ∧ most ≤ 256
  · obtain ⟨m, rfl⟩ := Int.eq_ofNat_of_zero_le (show 0 ≤ most by omega)
    obtain ⟨t, rfl⟩ := Int.eq_ofNat_of_zero_le h0
    exact historyRuns_ok m (by omega) (by omega) l nn c AA hn hm at_ t (by omega) w hok hS hT hTl
  · exact historyRuns_no most h nn c AA hm at_ st w hT
end Go.Proofs.YtfjiogockpmogaaDoor
