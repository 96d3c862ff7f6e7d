/-
  The law TermRuns: what stands behind each round.
  The law TermRuns, walked.
  The law TermRuns at any size.
-/
import Derived.Test.YtfmkeeaenjeneaaGreatDoorGcS
import Derived.Test.YtfmkeeaenjeneaaGreatDoorGcF
import Derived.Test.YtfmkeeaenjeneaaGreatDoorGcL
import Derived.Test.YtfmkeeaenjeneaaGreatDoorRegK
import Derived.Test.YtfmkeeaenjeneaaGreatDoorGfA
import Derived.Test.YtfmkeeaenjeneaaGreatDoorTmAwak2
import Derived.Deep.DeepCutAuto
import Derived.Outline
import Derived.Deep.CutBlock
namespace Go.Proofs.YtfmkeeaenjeneaaGreatDoor
open Go.RowKit Go.Sort
set_option linter.unusedVariables false
set_option linter.unusedSimpArgs false

/-- a terminal and the document's, apart from each other -/
structure RunT (w wr : World) (t : Nat) (T1 : TS) (B1 : List UInt8) (O : Nat → Prop) (z : Nat) (T2 : TS) (A : Option Addr) (c : Nat) (Ab : Option Addr) (B2 : List UInt8) (cb : Nat) : Prop where
  tm : TmS wr w.heap.size t T1 B1 O
  box : Blk wr z 34 (rtC T2 A c (.slice Ab B2.length cb))
  zno : ¬ O z
  zlo : w.heap.size ≤ z
  rows : RfAt wr (fun b => b ≠ z ∧ ¬ O b) A c T2.L
  sb : SlD wr (fun b => b ≠ z ∧ ¬ O b) Ab (bv B2)
  cbn : Ab = none → cb = 0
  base : Base wr w.heap.size
  bel : Below w.heap.size w wr
namespace RunT
variable {w wr w' w7 w8 : World} {t z c cb : Nat} {T1 T2 : TS} {B1 B2 : List UInt8} {O : Nat → Prop} {A Ab : Option Addr}
theorem below (h : RunT w wr t T1 B1 O z T2 A c Ab B2 cb) (hb : Below wr.heap.size wr w') : RunT w w' t T1 B1 O z T2 A c Ab B2 cb :=
  ⟨h.tm.below hb, h.box.below hb h.box.lt, h.zno, h.zlo, h.rows.below hb, h.sb.below hb, h.cbn, h.base.below hb, h.bel.trans (hb.mono h.bel.size)⟩
/-- the terminal turns -/
theorem step {T : TS} {B : List UInt8} {O' : Nat → Prop} (h : RunT w wr t T1 B1 O z T2 A c Ab B2 cb) (hs : TmS w' w.heap.size t T B O') (ho : ∀ k, O' k → O k ∨ wr.heap.size ≤ k) (hc : Chg O wr w') : RunT w w' t T B O' z T2 A c Ab B2 cb := by
  have hzl := h.box.lt
  have key : ∀ b, b < wr.heap.size → (b ≠ z ∧ ¬ O b) → ((b ≠ z ∧ ¬ O b) ∧ ¬ O' b) := fun b hb hd => ⟨hd, fun hk => by
    rcases ho b hk with h1 | h1
    · exact hd.2 h1
    · omega⟩
  refine ⟨hs, h.box.chg hc h.zno, fun hk => ?_, h.zlo, ((h.rows.mono (D' := fun b => (b ≠ z ∧ ¬ O b) ∧ ¬ O' b) key).chg hc (fun b _ hb => hb.1.2)).mono (fun b _ hd => ⟨hd.1.1, hd.2⟩), ((h.sb.mono (D' := fun b => (b ≠ z ∧ ¬ O b) ∧ ¬ O' b) key).chg hc (fun b _ hb => hb.1.2)).mono (fun b _ hd => ⟨hd.1.1, hd.2⟩), h.cbn, h.base.chg hc (fun k hk => h.tm.lo_ hk), h.bel.trans (hc.below h.bel.size (fun k hk => h.tm.lo_ hk))⟩
  rcases ho z hk with h1 | h1
  · exact h.zno h1
  · omega
/-- another terminal, all of whose blocks are new -/
theorem fork {t2 : Nat} {T : TS} {B : List UInt8} {O' : Nat → Prop} (h : RunT w wr t T1 B1 O z T2 A c Ab B2 cb) (hb : Below wr.heap.size wr w') (hs : TmS w' wr.heap.size t2 T B O') : RunT w w' t2 T B O' z T2 A c Ab B2 cb := by
  have hzl := h.box.lt
  have key : ∀ b, b < wr.heap.size → (b ≠ z ∧ ¬ O b) → (b ≠ z ∧ ¬ O' b) := fun b hb hd => ⟨hd.1, fun hk => by have := hs.lo_ hk; omega⟩
  exact ⟨hs.weaken h.bel.size, h.box.below hb hzl, fun hk => by have := hs.lo_ hk; omega, h.zlo, (h.rows.mono key).below hb, (h.sb.mono key).below hb, h.cbn, h.base.below hb, h.bel.trans (hb.mono h.bel.size)⟩
/-- the document's is written anew -/
theorem put {T : TS} {B : List UInt8} {A9 Ab9 : Option Addr} {c9 cb9 : Nat} (h : RunT w wr t T1 B1 O z T2 A c Ab B2 cb) (hb : Below wr.heap.size wr w7) (hr : RfAt w7 (fun b => (b ≠ z ∧ ¬ O b) ∨ wr.heap.size ≤ b) A9 c9 T.L) (hsb : SlD w7 (fun b => (b ≠ z ∧ ¬ O b) ∨ wr.heap.size ≤ b) Ab9 (bv B)) (hcb : Ab9 = none → cb9 = 0) (hg : w7.grownBy w8 (some z)) (hn : Blk w8 z 34 (rtC T A9 c9 (.slice Ab9 B.length cb9))) : RunT w w8 t T1 B1 O z T A9 c9 Ab9 B cb9 := by
  have h7 := h.below hb
  have hzl := h.box.lt
  have hc := chg_of_grown hg
  have hlo : ∀ k, one z k → w.heap.size ≤ k := fun k hk => by
    have e : k = z := hk
    rw [e]; exact h.zlo
  have key : ∀ b, b < w7.heap.size → ((b ≠ z ∧ ¬ O b) ∨ wr.heap.size ≤ b) → (b ≠ z ∧ ¬ O b) := fun b hb hd => by
    rcases hd with hd | hd
    · exact hd
    · exact ⟨by omega, fun hk => by have := h.tm.lt hk; omega⟩
  have kz : ∀ b, b < w7.heap.size → (b ≠ z ∧ ¬ O b) → ¬ one z b := fun b _ hd e => hd.1 e
  exact ⟨h7.tm.chg hc (fun k hk e => h.zno (by have e' : k = z := e; rw [← e']; exact hk)), hn, h.zno, h.zlo, (hr.mono key).chg hc kz, (hsb.mono key).chg hc kz, hcb, h7.base.chg hc hlo, h7.bel.trans (hc.below h7.bel.size hlo)⟩
/-- bytes in old blocks, handed on as one part -/
theorem wr1 (h : RunT w wr t T1 B1 O z T2 A c Ab B2 cb) (hlt : B1.length < 32) (A' : Option Addr) (x : List UInt8) (m c' : Nat) (hm : m = x.length) (hx : x.length ≤ 100000) (hS : Sl wr w.heap.size A' (bv x)) :
    Calls Tryz.prog 8 #[.pointer (some ⟨t, 0, none⟩), .slice (some ⟨wr.heap.size, 0, none⟩) 1 1] (wr.alloc (.cells #[.slice A' m c'] 32)) fun e w' => e = .returned (.tuple #[]) ∧ ∃ O', RunT w w' t (wrT (T1, B1) x).1 (wrT (T1, B1) x).2 O' z T2 A c Ab B2 cb ∧ Chg O wr w' := by
  subst hm
  have hb : Below wr.heap.size wr (wr.alloc (.cells #[.slice A' x.length c'] 32)) := (Below.refl _ _).alloc (Nat.le_refl _) _
  have h1 := h.below hb
  have h2 : Blk (wr.alloc (.cells #[.slice A' x.length c'] 32)) wr.heap.size 32 [.slice A' x.length c'] := Blk.new wr _ _
  have hP : PartsAt (wr.alloc (.cells #[.slice A' x.length c'] 32)) O wr.heap.size [(A', x, c')] := by
    refine ⟨h2.lt, fun hk => ?_, fun j v hv => ?_, fun v hv => ?_, fun v hv => ?_⟩
    · exact absurd (h.tm.lt hk) (by omega)
    · match j, hv with
      | 0, hv => simp at hv; subst hv; exact h2.cell 0
      | j + 1, hv => simp at hv
    · simp at hv
      subst hv
      by_cases h0 : x = []
      · exact .inl h0
      · right
        obtain ⟨b, o, e, hbl, hc⟩ := hS.open_ (by rw [bv_length]; exact List.length_pos_iff.2 h0)
        have := h.bel.size
        exact ⟨b, o, e, by simp; omega, fun hk => absurd (h.tm.lo_ hk) (by omega), fun i hi => (hb.cell (p := ⟨b, o + i, none⟩) (by show b < wr.heap.size; omega)).trans (hc i _ (bv_get hi))⟩
    · simp at hv
      subst hv
      exact hx
  refine (h1.tm.write h1.base hlt wr.heap.size [(A', x, c')] (by simp) hP).mono ?_
  rintro e w' ⟨rfl, O', a1, a2, a3⟩
  exact ⟨rfl, O', h1.step a1 a2 a3, ((Chg.refl O wr).alloc _).trans a3 (fun k hk => .inl hk)⟩
end RunT
section
variable {w : World} {lo t : Nat} {T : TS} {B : List UInt8} {O : Nat → Prop}
theorem TmS.cursor (h : TmS w lo t T B O) : Calls Tryz.prog 14 #[.pointer (some ⟨t, 0, none⟩)] w fun e w' => e = .returned (.tuple #[.int .i64 T.row, .int .i64 T.col]) ∧ Below w.heap.size w w' := by
  obtain ⟨g, rb, bs, h1, _⟩ := h
  exact cursor_yes h1
theorem TmS.size (h : TmS w lo t T B O) : Calls Tryz.prog 15 #[.pointer (some ⟨t, 0, none⟩)] w fun e w' => e = .returned (.tuple #[.int .i64 T.W, .int .i64 T.L.length]) ∧ Below w.heap.size w w' := by
  obtain ⟨g, rb, bs, h1, _⟩ := h
  exact tsize_yes h1
theorem TmS.pending (h : TmS w lo t T B O) : Calls Tryz.prog 17 #[.pointer (some ⟨t, 0, none⟩)] w fun e w' => e = .returned (.bool T.pend) ∧ Below w.heap.size w w' := by
  obtain ⟨g, rb, bs, h1, _⟩ := h
  exact tpending_yes h1
theorem TmS.waits (h : TmS w lo t T B O) : Calls Tryz.prog 18 #[.pointer (some ⟨t, 0, none⟩)] w fun e w' => e = .returned (.int .i64 B.length) ∧ Below w.heap.size w w' := by
  obtain ⟨g, rb, bs, h1, _⟩ := h
  exact (twaits_yes h1).mono fun e w' ⟨a, b⟩ => ⟨a, by rw [← b]; exact Below.refl _ _⟩
theorem TmS.fork (h : TmS w lo t T B O) (hT : BlankT w) : Calls Tryz.prog 13 #[.pointer (some ⟨t, 0, none⟩)] w fun e w' => ForkP w T B e w' := by
  obtain ⟨g, rb, bs, h1, _⟩ := h
  exact tfork_any h1 hT
end
theorem stepT_snd (T T' : TS) (B : List UInt8) : (stepT T B).2 = (stepT T' B).2 := by
  cases B with
  | nil => rfl
  | cons c l =>
    by_cases h27 : c = 27
    · subst h27
      rw [stepT_esc, stepT_esc]
    · by_cases h32 : c < 32 ∨ c = 127
      · rw [stepT_ctl h27 h32, stepT_ctl h27 h32]
      · rw [stepT_rune h27 h32, stepT_rune h27 h32]
        split <;> rfl
theorem wrT_stuck (T : TS) (B x : List UInt8) (h : (stepT T B).2 = 0) : wrT (T, B) x = bytesT T (B ++ x) ∧ (stepT (bytesT T (B ++ x)).1 (bytesT T (B ++ x)).2).2 = 0 :=
  ⟨wrT_eq T B h _ x rfl, runT_stuck _ T (B ++ x) (Nat.le_refl _)⟩
theorem rtZ_one : ∀ v ∈ rtZ, v.oneCell' = true := List.all_eq_true.1 (show rtZ.all (fun v => v.oneCell') = true from rfl)
set_option maxRecDepth 100000 in
set_option maxHeartbeats 8000000 in
theorem rtnew_no (a b : Int) (hbad : sideB a = false ∨ sideB b = false) (w : World) :
    Calls Tryz.prog 6 #[.int .i64 a, .int .i64 b] w fun e w' => e = .returned (.tuple #[.agg rtZ.toArray, .int .i64 50]) ∧ Below w.heap.size w w' := by
  have HZ := Lib.hid (Blk.new w 34 rtZ)
  have HC : Hid (∀ wa : World, Calls Tryz.prog 20 #[.int .i64 a, .int .i64 b] wa fun e w' => e = .returned (.tuple #[.agg #[.int .i64 0, .int .i64 0, .slice none 0 0], .int .i64 40]) ∧ Below wa.heap.size wa w') := Lib.hid (fun wa => rnew_no a b hbad wa)
  clear hbad
  go_enter Tryz.func6, Tryz.ntmps6
  go_wp2_with (first
    | (go_at_call 20; refine (HC.out _).mono ?_; rintro e w2 ⟨rfl, hb2⟩; have HB2 := Lib.hid hb2; have HZ2 := Lib.hid (HZ.out.below hb2 (by simp)); have HG2 := Lib.hid (Blk.new w2 29 (rgC 0 0 none 0)); have hs2 : w.heap.size + 1 ≤ w2.heap.size := (by have := hb2.size; simpa using this); clear hb2)
    | ((with_reducible refine at_store 6 ?_); refine wpList_store_blk rfl _ _ _ rfl rfl w2.heap.size 0 _ (rgC 0 0 none 0) [.int .i64 0, .int .i64 0, .slice none 0 0] rfl rfl HG2.out (by simp [rgC]) rg_size (by intro v hv; simp at hv; rcases hv with rfl | rfl | rfl <;> rfl) ?_; intro w3 hn3 hg3; have hb3 : Below w2.heap.size w2 w3 := ((Below.refl _ _).alloc (Nat.le_refl _) _).grown hg3 (by simp) (fun j hj => by injection hj with hj; omega); have HZ3 := Lib.hid (HZ2.out.below hb3 (by omega)); have HB3 := Lib.hid (HB2.out.trans (hb3.mono HB2.out.size)); clear hn3 hg3 hb3)
    | ((with_reducible refine at_store 4 ?_); refine wpList_store_blk rfl _ _ _ rfl rfl w.heap.size 0 _ rtZ rtZ rfl rfl HZ3.out (by simp [rtZ]) rt_size rtZ_one ?_; intro w9 hn9 hg9))
  refine bodyPost_ret (results_ct rfl rfl rfl hn9.whole Tryz.underlying34 rfl rt_size) rfl ⟨rfl, ?_⟩
  exact (((Below.refl _ _).alloc (Nat.le_refl _) _).trans (HB3.out.mono (by simp))).grown hg9 (by have := HB3.out.size; simp at this; omega) (fun j hj => by injection hj with hj; omega)
end Go.Proofs.YtfmkeeaenjeneaaGreatDoor

namespace Go.Proofs.YtfmkeeaenjeneaaGreatDoor
open Go.RowKit Go.Sort
set_option linter.unusedVariables false
set_option linter.unusedSimpArgs false

theorem tptr_eq (t : Nat) (w : World) : Sem.run Tryz.prog (binOp .eql 23 (.pointer (some ⟨t, 0, none⟩)) (.pointer none)) w = .ok (.bool false) w := by
  have h : ∀ d : Nat, (Op.equalIn (d + 1) 23 (.pointer (some ⟨t, 0, none⟩)) (.pointer none)).run Tryz.prog w = .ok false w := fun d => by
    simp [Op.equalIn, run_underlying Tryz.underlying23]
  simp only [binOp]
  simp [Op.equal, Op.maxDepth, h 9999]
theorem tptr_ne (t : Nat) (w : World) : Sem.run Tryz.prog (binOp .neq 23 (.pointer (some ⟨t, 0, none⟩)) (.pointer none)) w = .ok (.bool true) w := by
  have h : ∀ d : Nat, (Op.equalIn (d + 1) 23 (.pointer (some ⟨t, 0, none⟩)) (.pointer none)).run Tryz.prog w = .ok false w := fun d => by
    simp [Op.equalIn, run_underlying Tryz.underlying23]
  simp only [binOp]
  simp [Op.equal, Op.maxDepth, h 9999]
theorem tptr_nn (w : World) : Sem.run Tryz.prog (binOp .neq 23 (.pointer none) (.pointer none)) w = .ok (.bool false) w := by
  have h : ∀ d : Nat, (Op.equalIn (d + 1) 23 (.pointer none) (.pointer none)).run Tryz.prog w = .ok true w := fun d => by
    simp [Op.equalIn, run_underlying Tryz.underlying23]
  simp only [binOp]
  simp [Op.equal, Op.maxDepth, h 9999]
theorem enters_cut5 : ∀ args w, (callFunc 9 args).run Tryz.prog w = .ok (.enter 9 args) w := enters_of Tryz.func9 (by kernel_rfl) rfl
theorem enters_rtwrite : ∀ args w, (callFunc 10 args).run Tryz.prog w = .ok (.enter 10 args) w := enters_of Tryz.func10 (by kernel_rfl) rfl
def otz : List Value := [.int .u8 0, .slice none 0 0, .int .i64 0, .int .i64 0]
theorem pend_new (X Y : Nat) : PdOk (tmNew X Y) := PdOk.of_no rfl
set_option maxRecDepth 100000 in
set_option maxHeartbeats 8000000 in
theorem termRuns_ok (X Y : Nat) (x1 : 1 ≤ X) (x5 : X ≤ 500) (y1 : 1 ≤ Y) (y5 : Y ≤ 500) (w : World) (l : List OpT) (hok : ∀ o ∈ l, o.ok w) (n c0 : Nat) (A0 : Option Addr) (hn : n = l.length) (hm : n ≤ maxLen) (hS : Sl w w.heap.size A0 (otc l)) (hT : BlankT w) (hTab : Tabs w) :
    Calls Tryz.prog 3 #[.int .i64 X, .int .i64 Y, .slice A0 n c0] w fun e w' => e = .returned (.bool true) ∧ Below w.heap.size w w' := by
  have HN := Lib.hid hn
  have HS := Lib.hid hS
  have HOK := Lib.hid hok
  have HT := Lib.hid hT
  have HB0 := Lib.hid (base_of hT hTab)
  have hmi : (n : Int) ≤ 9223372036854775807 := by unfold maxLen at hm; omega
  clear hn hS hok hT hTab hm
  go_enter Tryz.func3, Tryz.ntmps3
  go_upto_region 2 with (go_at_call 5; refine (tnewS X Y x1 x5 y1 y5 _ HT.out).mono ?_; rintro e w3 ⟨t, O, rfl, ha, hb3⟩; have HA := Lib.hid ha; have HB3 := Lib.hid hb3; clear ha hb3)
  have s3 := HB3.out.size
  go_upto_region 3 with (first
    | (go_at_call 6; refine (rtnew_ok X Y x1 x5 y1 y5 _).mono ?_; rintro e w4 ⟨Ar, cr, rfl, hr4, hb4⟩; have HR4 := Lib.hid hr4; have HB34 := Lib.hid hb4; have HB4 := Lib.hid (HB3.out.trans (hb4.mono HB3.out.size)); have HZ4 := Lib.hid (Blk.new w4 34 rtZ); clear hr4 hb4)
    | ((with_reducible refine at_store 9 ?_); refine wpList_store_blk rfl _ _ _ rfl rfl w4.heap.size 0 _ rtZ (rtC (tmNew X Y) Ar cr (.slice none 0 0)) rfl rfl HZ4.out (by simp [rtC, rtZ]) rt_size (rtC_one _ _ _ rfl) ?_; intro w5 hn5 hg5; have hb5 : Below w4.heap.size w4 w5 := ((Below.refl _ _).alloc (Nat.le_refl _) _).grown hg5 (by simp) (fun j hj => by injection hj with hj; omega); have HZ5 := Lib.hid (show Blk w5 w4.heap.size 34 (rtC (tmNew X Y) Ar cr (.slice none 0 0)) from hn5); have HB45 := Lib.hid hb5; clear hn5 hg5 hb5))
  have s4 := HB34.out.size
  have s5 := HB45.out.size
  have hst : RunT w w5 t (tmNew X Y) [] O w4.heap.size (tmNew X Y) Ar cr none [] 0 := by
    have hlt := fun k hk => HA.out.lt (k := k) hk
    refine ⟨HA.out.below (HB34.out.trans (HB45.out.mono s4)), HZ5.out, fun hk => by have := hlt _ hk; omega, by omega, (HR4.out.mono (D' := fun b => b ≠ w4.heap.size ∧ ¬ O b) (fun b hb hd => ⟨by omega, fun hk => by have := hlt _ hk; omega⟩)).below HB45.out, .inl rfl, fun _ => rfl, HB0.out.below (HB4.out.trans (HB45.out.mono (by omega))), HB4.out.trans (HB45.out.mono (by omega))⟩
  have HST := Lib.hid hst
  have hpd := pend_new X Y
  have HPD := Lib.hid hpd
  clear hst hpd s3 s4 s5 HA HB3 HB34 HB4 HB45 HZ4 HZ5 HR4
  generalize w4.heap.size = z at HST ⊢
  obtain ⟨T0, hT0⟩ : ∃ T0, T0 = tmNew X Y := ⟨_, rfl⟩
  rw [← hT0] at HST HPD
  clear hT0 x1 x5 y1 y5 HT
  have hp1 := tptr_ne t
  go_wp2_with (go_at_call 7; refine (tawake_any _ HST.out.base.bl HST.out.base.tb).mono ?_; rintro e wa ⟨rfl, hba⟩; have HSA := Lib.hid (HST.out.below hba); clear hba)
  clear HST hp1
  go_loopw [7, 11] (fun v7 v11 wr => ∃ (k t : Nat) (T : TS) (B : List UInt8) (O : Nat → Prop) (A : Option Addr) (c : Nat) (Ab : Option Addr) (cb : Nat), v7 = .pointer (some ⟨t, 0, none⟩) ∧ v11 = .int .i64 (k : Int) ∧ k ≤ 30 ∧ k ≤ n ∧ (stepT T B).2 = 0 ∧ PdOk T ∧ RunT w wr t T B O z T A c Ab B cb) (fun _ v11 _ => 30 - (intOf v11).toNat)
  case atStart => exact ⟨0, t, T0, [], O, Ar, cr, none, 0, rfl, rfl, by omega, by omega, rfl, HPD.out, HSA.out⟩
  case round =>
  clear HSA HPD
  obtain ⟨k, t, T, B, O, A, c, Ab, cb, rfl, rfl, hk, hkn, hlt, hpd, hst⟩ := hrel
  have HST := Lib.hid hst
  have HPD := Lib.hid hpd
  have HST0 := Lib.hid hlt
  clear hst hpd hlt
  have hp1 := tptr_ne t
  by_cases hgo : k < n ∧ k < 30
  · obtain ⟨g1, g2⟩ := hgo
    have hki : (k : Int) < n := by omega
    have hki5 : (k : Int) < 30 := by omega
    have hx : l[k]? = some (l[k]'(by have := HN.out; omega)) := List.getElem?_eq_getElem _
    generalize l[k]'(by have := HN.out; omega) = o at hx
    have hook := HOK.out o (List.mem_of_getElem? hx)
    obtain ⟨ab, off, rfl, hab, hcell⟩ := HS.out.open_ (by rw [otc_length]; have := HN.out; omega)
    have hrg : wr.rangeAt ab (off + k * 4) o.cells := fun j v hv => by
      rw [Nat.add_assoc]
      exact (HST.out.bel.cell (p := ⟨ab, off + (k * 4 + j), none⟩) hab).trans (hcell _ v (otc_get hx hv))
    have HRG := Lib.hid hrg
    have HOO := Lib.hid hook
    have HN0 := Lib.hid (Blk.new wr 39 otz)
    have d0 := hook.d0
    have d1 := hook.d1
    have HTL : Hid (∀ k, O k → k < wr.heap.size) := Lib.hid (fun k hk => HST.out.tm.lt hk)
    have HZL : Hid (z < wr.heap.size) := Lib.hid HST.out.box.lt
    clear hx hook hcell hrg
    go_upto_region 9 with (first
      | ((with_reducible refine at_dst 62 ?_); refine wpList_load_mid rfl _ _ rfl ab (off + k * 4) rfl o.cells _ HRG.out Tryz.underlying39 rfl opt_size ?_)
      | ((with_reducible refine at_store 12 ?_); refine wpList_store_blk rfl _ _ _ rfl rfl wr.heap.size 0 _ otz o.cells rfl rfl HN0.out (by simp [OpT.len]; decide) opt_size o.one ?_; intro wq hnq hgq; have hbq : Below wr.heap.size wr wq := ((Below.refl _ _).alloc (Nat.le_refl _) _).grown hgq (by simp) (fun j hj => by injection hj with hj; omega); have HQ := Lib.hid (show Blk wq wr.heap.size 39 o.cells from hnq); have HSQ := Lib.hid (HST.out.below hbq); clear hnq hgq hbq))
    clear HN0 HRG HST hp1 hki hki5
    have HNB0 : Hid (¬ O wr.heap.size ∧ wr.heap.size ≠ z) := Lib.hid ⟨fun hk => by have := HTL.out _ hk; omega, by have := HZL.out; omega⟩
    generalize wr.heap.size = nb at HQ HNB0 ⊢
    have q0 : wq.cell? ⟨nb, 0, none⟩ = some (.int .u8 o.kd) := HQ.out.cell 0
    have HNB := HNB0
    clear HNB0 HTL HZL
    have hq5 : o.kd % 5 = 0 ∨ o.kd % 5 = 1 ∨ o.kd % 5 = 2 ∨ o.kd % 5 = 3 ∨ o.kd % 5 = 4 := by omega
    have HTOK := Lib.hid HSQ.out.tm.tok
    go_upto_block 2 with fail
    clear q0
    go_cut [7] (fun v7 wx => ∃ (t : Nat) (T : TS) (B : List UInt8) (O : Nat → Prop) (A : Option Addr) (c : Nat) (Ab : Option Addr) (cb : Nat), v7 = .pointer (some ⟨t, 0, none⟩) ∧ (stepT T B).2 = 0 ∧ PdOk T ∧ RunT w wx t T B O z T A c Ab B cb)
    case first =>
      have q1 : wq.cell? ⟨nb, 1, none⟩ = some (.slice o.A o.n o.c) := HQ.out.cell 1
      have q2 : wq.cell? ⟨nb, 2, none⟩ = some (.int .i64 o.wd) := HQ.out.cell 2
      have q3 : wq.cell? ⟨nb, 3, none⟩ = some (.int .i64 o.ht) := HQ.out.cell 3
      by_cases hw : o.kd % 5 = 0 ∨ o.kd % 5 = 1 ∨ o.kd % 5 = 2
      · clear q2 q3 hq5
        obtain ⟨x, hxe⟩ : ∃ x, x = o.L.take 300 := ⟨_, rfl⟩
        have hxl : min o.n 300 = x.length := by rw [hxe, List.length_take, ← HOO.out.n, Nat.min_comm]
        have hx3 : x.length ≤ 300 := by rw [← hxl]; omega
        have hsx : Sl w w.heap.size o.A (bv x) := by have := HOO.out.s.take 300; rwa [bv_take, ← hxe] at this
        have HSX := Lib.hid hsx
        have HCT : Hid (∀ W, Calls Tryz.prog 9 #[.slice o.A o.n o.c] W fun e w' => e = .returned (.slice o.A x.length o.c) ∧ W = w') := Lib.hid (fun W => by have := cut5_any o.A o.n o.c HOO.out.c W; rwa [hxl] at this)
        have HW := Lib.hid (HSQ.out.wr1 (stepT_stuck HST0.out) o.A x x.length o.c rfl (by omega) (hsx.below HSQ.out.bel))
        obtain ⟨T9, B9, hTB⟩ : ∃ T9 B9, bytesT T (B ++ x) = (T9, B9) := ⟨_, _, rfl⟩
        obtain ⟨e1, e2⟩ := wrT_stuck T B x HST0.out
        have e3 := HPD.out.bytes HTOK.out (B ++ x)
        rw [hTB] at e1 e2 e3
        rw [e1] at HW
        have HST9 := Lib.hid e2
        have HPD9 := Lib.hid e3
        have HTB := Lib.hid hTB
        have hbl := stepT_stuck HST0.out
        have HBL := Lib.hid hbl
        clear hxe hxl hsx e1 e2 e3 hTB hbl
        rcases hw with hw | hw | hw
        case' inl => have hb0 : (o.kd % 5 == 0) = true := by rw [hw]; rfl
        case' inr.inl =>
          have hb0 : (o.kd % 5 == 0) = false := by rw [hw]; rfl
          have hb1 : (o.kd % 5 == 1) = true := by rw [hw]; rfl
        case' inr.inr =>
          have hb0 : (o.kd % 5 == 0) = false := by rw [hw]; rfl
          have hb1 : (o.kd % 5 == 1) = false := by rw [hw]; rfl
          have hb2 : (o.kd % 5 == 2) = true := by rw [hw]; rfl
        all_goals
          clear hw
          go_upto_region 17 with (first
            | (go_at_call 9; refine (HCT.out _).mono ?_; rintro e w0 ⟨rfl, rfl⟩)
            | (go_at_call 8; refine HW.out.mono ?_; rintro e w6 ⟨rfl, O6, h6, hc6⟩; have H6 := Lib.hid h6; have HQ6 := Lib.hid (HQ.out.chg hc6 HNB.out.1); clear h6 hc6))
          clear q1
          have HSD : Hid ((fun W : World => W.rangeAt z 0 (rtC T A c (.slice Ab B.length cb)) ∧ W.cell? ⟨nb, 1, none⟩ = some (.slice o.A o.n o.c)) w6.drew) := Lib.hid ⟨(H6.out.below (Below.refl _ _).drew).box.whole, HQ6.out.cell 1⟩
          have HRW := Lib.hid (rwrite_any (T := T) (H6.out.below (Below.refl _ _).drew).rows HTOK.out B x Ab o.A B.length cb x.length o.c rfl H6.out.cbn (H6.out.below (Below.refl _ _).drew).sb.sl rfl HOO.out.nil (((HSX.out.below H6.out.bel).drew).more (by show w.heap.size ≤ w6.heap.size; exact H6.out.bel.size)) (by have := HBL.out; omega) (by omega))
          rw [HTB.out] at HRW
          refine wp_region_K (fun W : World => W.rangeAt z 0 (rtC T A c (.slice Ab B.length cb)) ∧ W.cell? ⟨nb, 1, none⟩ = some (.slice o.A o.n o.c)) 5 (by kernel_rfl) ?_
          refine wpAnyK_take (i := 0) (v := .agg (rtC T A c (.slice Ab B.length cb)).toArray) rfl (by kernel_rfl) (by kernel_rfl) (by kernel_rfl) (by kernel_rfl) (fun _ _ _ h => h) (yieldsIf_load_mid (by rfl) _ _ rfl z 0 rfl (rtC T A c (.slice Ab B.length cb)) _ (fun w h => h.1) Tryz.underlying34 rfl rt_size) HSD.out ?_
          change wpAnyK _ _ _ _ _ _ _ _ (Act.put _ (some 80) _) _
          try simp only [Act.put, List.setIfInBounds_toArray, List.set_cons_zero, List.set_cons_succ]
          refine wpAnyK_takeP (i := 1) (v := ?_) rfl (by kernel_rfl) (by kernel_rfl) (by kernel_rfl) (by kernel_rfl) (fun _ _ _ h => h) (Or.inl ⟨by rfl, ?_⟩) (.inr HSD.out) ?_
          rotate_left
          · intro w hSw
            go_simp
            try with_reducible rfl
          change wpAnyK _ _ _ _ _ _ _ _ (Act.put _ (some 81) _) _
          try simp only [Act.put, List.setIfInBounds_toArray, List.set_cons_zero, List.set_cons_succ]
          refine wpAnyK_take (i := 2) (v := .slice o.A o.n o.c) rfl (by kernel_rfl) (by kernel_rfl) (by kernel_rfl) (by kernel_rfl) (fun _ _ _ h => h) (Or.inl ⟨by rfl, ?_⟩) HSD.out ?_
          · intro w hSw
            have s1 : w.cell? ⟨nb, 1, none⟩ = some (.slice o.A o.n o.c) := hSw.2
            clear hSw
            go_simp
            try with_reducible rfl
          change wpAnyK _ _ _ _ _ _ _ _ (Act.put _ (some 82) _) _
          try simp only [Act.put, List.setIfInBounds_toArray, List.set_cons_zero, List.set_cons_succ]
          refine wpAnyK_only (i := 3) (by kernel_rfl) rfl (fun K hK => ?_)
          refine step_call rfl 9 _ _ rfl enters_cut5 #[.slice o.A o.n o.c] (by simp [Act.eval, Act.put]) (HCT.out _) ?_
          rintro e wy ⟨rfl, rfl⟩
          refine ⟨_, rfl, ?_⟩
          refine hK.out _ _ (.inr HSD.out) ?_
          clear hK K
          change wpAnyK _ _ _ _ _ _ _ _ (Act.put _ (some 83) _) _
          try simp only [Act.put, List.setIfInBounds_toArray, List.set_cons_zero, List.set_cons_succ]
          refine wpAnyK_only (i := 4) (by kernel_rfl) rfl (fun K hK => ?_)
          refine step_call rfl 10 _ _ rfl enters_rtwrite #[.agg (rtC T A c (.slice Ab B.length cb)).toArray, .slice o.A x.length o.c] (by simp [Act.eval, Act.put]) HRW.out ?_
          rintro e w7 ⟨V, rfl, ⟨Ab9, cb9, ⟨A9, c9, rfl, hr9⟩, hcb9, _, hsb9⟩, hb7⟩
          refine ⟨_, rfl, ?_⟩
          have HR9 := Lib.hid hr9
          have HSB9 := Lib.hid hsb9
          have HCB9 := Lib.hid hcb9
          have HB7 := Lib.hid ((Below.refl w6.heap.size w6).drew.trans hb7)
          have H7 := Lib.hid (H6.out.below HB7.out)
          have HQ7 := Lib.hid (HQ6.out.below HB7.out HQ6.out.lt)
          have HSE : Hid ((fun W : World => W.rangeAt z 0 (rtC T A c (.slice Ab B.length cb)) ∧ W.cell? ⟨nb, 1, none⟩ = some (.slice o.A o.n o.c)) w7) := Lib.hid ⟨H7.out.box.whole, HQ7.out.cell 1⟩
          refine hK.out _ _ (.inr HSE.out) ?_
          clear hK K hr9 hsb9 hcb9 hb7
          change wpAnyK _ _ _ _ _ _ _ _ (Act.put _ (some 84) _) _
          try simp only [Act.put, List.setIfInBounds_toArray, List.set_cons_zero, List.set_cons_succ]
          refine wpAnyK_only (i := 5) (by kernel_rfl) rfl (fun K hK => ?_)
          refine step_store_blk rfl _ _ _ rfl z 0 _ (rtC T A c (.slice Ab B.length cb)) (rtC T9 A9 c9 (.slice Ab9 B9.length cb9)) (by simp [Act.eval, Act.put]) (by simp [Act.eval, Act.put]) H7.out.box (by simp [rtC]) rt_size (rtC_one _ _ _ rfl) ?_
          intro w8 hn8 hg8
          refine hK.out _ _ (.inl (by kernel_rfl)) ?_
          clear hK K
          try simp only [Act.put, List.setIfInBounds_toArray, List.set_cons_zero, List.set_cons_succ]
          refine wpAnyK_done (by kernel_rfl) ?_ _
          have H8 := Lib.hid (H6.out.put HB7.out HR9.out HSB9.out HCB9.out hg8 hn8)
          clear hn8 hg8
          go_wp2_with (fail)
          go_meet
          exact ⟨t, T9, B9, O6, A9, c9, Ab9, cb9, rfl, HST9.out, HPD9.out, H8.out⟩
      · by_cases h3 : o.kd % 5 = 3
        · have hb0 : (o.kd % 5 == 0) = false := by rw [h3]; rfl
          have hb1 : (o.kd % 5 == 1) = false := by rw [h3]; rfl
          have hb2 : (o.kd % 5 == 2) = false := by rw [h3]; rfl
          have hb3 : (o.kd % 5 == 3) = true := by rw [h3]; rfl
          clear hw h3 hq5 q1
          obtain ⟨T9, hT9⟩ : ∃ T9, T9 = rszA T o.wd o.ht := ⟨_, rfl⟩
          obtain ⟨E9, hE9⟩ : ∃ E9, E9 = rszE o.wd o.ht := ⟨_, rfl⟩
          have HRZ := Lib.hid (rtresize_any (T := T) (vB := .slice Ab B.length cb) HSQ.out.rows HTOK.out rfl o.wd o.ht)
          have HTR : Hid (∀ W t2 O2, TmS W w.heap.size t2 T B O2 → Base W w.heap.size → Calls Tryz.prog 12 #[.pointer (some ⟨t2, 0, none⟩), .int .i64 o.wd, .int .i64 o.ht] W fun e w' => e = .returned (.int .i64 E9) ∧ ∃ O', TmS w' w.heap.size t2 T9 B O' ∧ (∀ k, O' k → O2 k ∨ W.heap.size ≤ k) ∧ Chg O2 W w') := Lib.hid (fun W t2 O2 h hb => by rw [hT9, hE9]; exact h.resize hb o.wd o.ht)
          rw [← hT9, ← hE9] at HRZ
          have HST9 : Hid ((stepT T9 B).2 = 0) := Lib.hid (by rw [stepT_snd T9 T]; exact HST0.out)
          have HPD9 : Hid (PdOk T9) := Lib.hid (by rw [hT9]; exact HPD.out.resize _ _)
          clear hT9 hE9
          go_wp2_with (first
            | ((with_reducible refine at_dst 88 ?_); refine wpList_load_mid rfl _ _ rfl z 0 rfl (rtC T A c (.slice Ab B.length cb)) _ HSQ.out.box.whole Tryz.underlying34 rfl rt_size ?_)
            | (go_at_call 11; refine HRZ.out.mono ?_; rintro e w7 ⟨V, rfl, ⟨A9, c9, rfl, hr9⟩, hb7⟩; have HR9 := Lib.hid hr9; have HB7 := Lib.hid hb7; have HN7 := Lib.hid (Blk.new w7 34 rtZ); clear hr9 hb7 q2 q3)
            | ((with_reducible refine at_store 13 ?_); refine wpList_store_blk rfl _ _ _ rfl rfl w7.heap.size 0 _ rtZ (rtC T9 A9 c9 (.slice Ab B.length cb)) rfl rfl HN7.out (by simp [rtC, rtZ]) rt_size (rtC_one _ _ _ rfl) ?_; intro w8 hn8 hg8; have hb8 : Below w7.heap.size w7 w8 := ((Below.refl _ _).alloc (Nat.le_refl _) _).grown hg8 (by simp) (fun j hj => by injection hj with hj; omega); have HN8 := Lib.hid (show Blk w8 w7.heap.size 34 (rtC T9 A9 c9 (.slice Ab B.length cb)) from hn8); have HB8 := Lib.hid (HB7.out.trans (hb8.mono HB7.out.size)); have HR8 := Lib.hid (HR9.out.below hb8); have H8 := Lib.hid (HSQ.out.below HB8.out); have HQ8 := Lib.hid (HQ.out.below HB8.out HQ.out.lt); clear hn8 hg8 hb8)
            | ((with_reducible refine at_dst 96 ?_); refine wpList_load_mid rfl _ _ rfl w7.heap.size 0 rfl (rtC T9 A9 c9 (.slice Ab B.length cb)) _ HN8.out.whole Tryz.underlying34 rfl rt_size ?_)
            | ((with_reducible refine at_store 9 ?_); refine wpList_store_blk rfl _ _ _ rfl rfl z 0 _ (rtC T A c (.slice Ab B.length cb)) (rtC T9 A9 c9 (.slice Ab B.length cb)) rfl rfl H8.out.box (by simp [rtC]) rt_size (rtC_one _ _ _ rfl) ?_; intro w9 hn9 hg9; have H9 := Lib.hid (HSQ.out.put HB8.out HR8.out ((HSQ.out.sb.mono (fun b _ hd => .inl hd)).below HB8.out) HSQ.out.cbn hg9 hn9); have hq9 := HQ8.out.chg (chg_of_grown hg9) (fun e => HNB.out.2 e); have q2 : w9.cell? ⟨nb, 2, none⟩ = some (.int .i64 o.wd) := hq9.cell 2; have q3 : w9.cell? ⟨nb, 3, none⟩ = some (.int .i64 o.ht) := hq9.cell 3; clear hn9 hg9 hq9)
            | (go_at_call 12; refine (HTR.out _ _ _ H9.out.tm H9.out.base).mono ?_; rintro e wz ⟨rfl, Oz, a1, a2, a3⟩; have HZ := Lib.hid (H9.out.step a1 a2 a3); clear a1 a2 a3 q2 q3))
          go_meet
          exact ⟨t, T9, B, Oz, A9, c9, Ab, cb, rfl, HST9.out, HPD9.out, HZ.out⟩
        · have hb0 : (o.kd % 5 == 0) = false := by simp; omega
          have hb1 : (o.kd % 5 == 1) = false := by simp; omega
          have hb2 : (o.kd % 5 == 2) = false := by simp; omega
          have hb3 : (o.kd % 5 == 3) = false := by simp; omega
          clear hw h3 hq5 q1 q2 q3
          have HFK := Lib.hid (HSQ.out.tm.fork HSQ.out.base.bl)
          go_wp2_with (go_at_call 13; refine HFK.out.mono ?_; rintro e wz ⟨t2, O2, rfl, ht2, hbz⟩; have HZ := Lib.hid (HSQ.out.fork hbz ht2); have hp2 := tptr_eq t2; clear ht2 hbz)
          go_meet
          exact ⟨t2, T, B, O2, A, c, Ab, cb, rfl, HST0.out, HPD.out, HZ.out⟩
    case rest =>
    clear HQ HNB HTOK HSQ HOO HST0 HPD hq5
    obtain ⟨t, T, B, O, A, c, Ab, cb, rfl, hst0, hpd, hrt⟩ := hcut
    have HRT := Lib.hid hrt
    have HST0 := Lib.hid hst0
    have HPD := Lib.hid hpd
    have htok := hrt.tm.tok
    have hrow := htok.row
    have hcol := htok.col
    have hw5 := htok.q.w5
    have hh5 := htok.q.h5
    have hlt := stepT_stuck hst0
    have hrl : ¬ ((T.L.length : Int) ≤ (T.row : Int)) := by omega
    have hcl : ¬ ((T.W : Int) ≤ (T.col : Int)) := by omega
    have hbl : ¬ (32 ≤ (B.length : Int)) := by omega
    have hr0 : ¬ ((T.row : Int) < 0) := by omega
    have hc0 : ¬ ((T.col : Int) < 0) := by omega
    clear hrt hst0 hpd htok
    by_cases hp : T.pend = true
    case' pos =>
      have hcw := HPD.out hp
      have hcb : ((T.col : Int) != (T.W : Int) - 1) = false := by
        have : (T.col : Int) = (T.W : Int) - 1 := by omega
        rw [this]; simp
      have hpb : T.pend = true := hp
    case' neg => have hpb : T.pend = false := by simpa using hp
    all_goals
      have HPB := Lib.hid hpb
      clear hp hpb
      try clear hcw
      go_wp2_with (first
        | (go_at_call 14; refine HRT.out.tm.cursor.mono ?_; rintro e wa ⟨rfl, hba⟩; have HA := Lib.hid (HRT.out.below hba); clear hba)
        | (go_at_call 15; refine HA.out.tm.size.mono ?_; rintro e wb ⟨rfl, hbb⟩; have HB := Lib.hid (HA.out.below hbb); clear hbb)
        | ((with_reducible refine at_dst 116 ?_); refine wpList_load_mid rfl _ _ rfl z 0 rfl (rtC T A c (.slice Ab B.length cb)) _ HB.out.box.whole Tryz.underlying34 rfl rt_size ?_)
        | (go_at_call 16; refine (shows_S HB.out.tm HB.out.rows).mono ?_; rintro e wc ⟨rfl, hbc⟩; have HC := Lib.hid (HB.out.below hbc); clear hbc)
        | (go_at_call 17; refine HC.out.tm.pending.mono ?_; rw [HPB.out]; rintro e wd ⟨rfl, hbd⟩; have HD := Lib.hid (HC.out.below hbd); clear hbd)
        | (go_at_call 18; refine HD.out.tm.waits.mono ?_; rintro e we ⟨rfl, hbe⟩; have HE := Lib.hid (HD.out.below hbe); clear hbe))
      go_roundw
      case rel => exact ⟨k + 1, t, T, B, O, A, c, Ab, cb, rfl, by go_num, by omega, by omega, HST0.out, HPD.out, HE.out⟩
      case measure => simp [intOf]; omega
  · have hex : ¬ k < n ∨ (k < n ∧ ¬ k < 30) := by omega
    clear hgo
    rcases hex with h1 | ⟨h1, h2⟩
    · have h3 : ¬ (k : Int) < (n : Int) := by omega
      go_wp2_with (fail)
      go_ret
      exact ⟨rfl, HST.out.bel⟩
    · have h3 : (k : Int) < (n : Int) := by omega
      have h4 : ¬ (k : Int) < 30 := by omega
      go_wp2_with (fail)
      go_ret
      exact ⟨rfl, HST.out.bel⟩
end Go.Proofs.YtfmkeeaenjeneaaGreatDoor

namespace Go.Proofs.YtfmkeeaenjeneaaGreatDoor
open Go.RowKit Go.Sort
set_option linter.unusedVariables false
set_option linter.unusedSimpArgs false

set_option maxRecDepth 100000 in
set_option maxHeartbeats 8000000 in
theorem termRuns_no (a b : Int) (hbad : sideB a = false ∨ sideB b = false) (w : World) (n c0 : Nat) (A0 : Option Addr) (hm : n ≤ maxLen) (hT : BlankT w) (hTab : Tabs w) :
    Calls Tryz.prog 3 #[.int .i64 a, .int .i64 b, .slice A0 n c0] w fun e w' => e = .returned (.bool true) ∧ Below w.heap.size w w' := by
  have HB := Lib.hid hbad
  have HB0 := Lib.hid (base_of hT hTab)
  have hmi : (n : Int) ≤ 9223372036854775807 := by unfold maxLen at hm; omega
  have hpn := tptr_nn
  clear hbad hT hTab hm
  go_enter Tryz.func3, Tryz.ntmps3
  go_wp2_with (first
    | (go_at_call 5; refine (tnew_no a b _ HB.out).mono ?_; rintro e w3 ⟨rfl, rfl⟩)
    | (go_at_call 6; refine (rtnew_no a b HB.out _).mono ?_; rintro e w4 ⟨rfl, hb4⟩; have HB4 := Lib.hid hb4; have HZ4 := Lib.hid (Blk.new w4 34 rtZ); clear hb4)
    | ((with_reducible refine at_store 9 ?_); refine wpList_store_blk rfl _ _ _ rfl rfl w4.heap.size 0 _ rtZ rtZ rfl rfl HZ4.out (by simp [rtZ]) rt_size rtZ_one ?_; intro w5 hn5 hg5; have hb5 : Below w4.heap.size w4 w5 := ((Below.refl _ _).alloc (Nat.le_refl _) _).grown hg5 (by simp) (fun j hj => by injection hj with hj; omega); have HB5 := Lib.hid (HB4.out.trans (hb5.mono HB4.out.size)); clear hn5 hg5 hb5)
    | (go_at_call 7; refine (tawake_any _ (HB0.out.below HB5.out).bl (HB0.out.below HB5.out).tb).mono ?_; rintro e wa ⟨rfl, hba⟩; have HBA := Lib.hid (HB5.out.trans (hba.mono HB5.out.size)); clear hba))
  go_loopw [7, 11] (fun v7 v11 wr => v7 = .pointer none ∧ v11 = .int .i64 0 ∧ Below w.heap.size w wr) (fun _ _ _ => 0)
  case atStart => exact ⟨rfl, rfl, HBA.out⟩
  case round =>
    obtain ⟨rfl, rfl, hbr⟩ := hrel
    have HBR := Lib.hid hbr
    clear hbr
    by_cases h0 : n = 0
    · subst h0
      go_wp2_with (fail)
      go_ret
      exact ⟨rfl, HBR.out⟩
    · have h1 : (0 : Int) < (n : Int) := by omega
      have h2 : 0 < n := by omega
      clear h0
      go_wp2_with (fail)
      go_ret
      exact ⟨rfl, HBR.out⟩
theorem termRuns_walk (a b : Int) (l : List OpT) (w : World) (hok : ∀ o ∈ l, o.ok w) (n c0 : Nat) (A0 : Option Addr) (hn : n = l.length) (hm : n ≤ maxLen) (hS : Sl w w.heap.size A0 (otc l)) (hT : BlankT w) (hTab : Tabs w) :
    Calls Tryz.prog 3 #[.int .i64 a, .int .i64 b, .slice A0 n c0] w fun e w' => e = .returned (.bool true) ∧ Below w.heap.size w w' := by
  by_cases hb : sideB a = false ∨ sideB b = false
  · exact termRuns_no a b hb w n c0 A0 hm hT hTab
  · have hx : sideB a = true := by cases hq : sideB a; exact absurd (.inl hq) hb; rfl
    have hy : sideB b = true := by cases hq : sideB b; exact absurd (.inr hq) hb; rfl
    obtain ⟨X, rfl⟩ : ∃ X : Nat, a = X := ⟨a.toNat, by simp [sideB] at hx; omega⟩
    obtain ⟨Y, rfl⟩ : ∃ Y : Nat, b = Y := ⟨b.toNat, by simp [sideB] at hy; omega⟩
    simp only [sideB, decide_eq_true_eq] at hx hy
    exact termRuns_ok X Y (by omega) (by omega) (by omega) (by omega) w l hok n c0 A0 hn hm hS hT hTab
end Go.Proofs.YtfmkeeaenjeneaaGreatDoor

