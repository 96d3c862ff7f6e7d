/-
  Walks: the program's Fork of a terminal.
  Walks: the reference's Resize of a terminal.
  A wrap is pending on the last column alone: plain mathematics.
-/
import Derived.Test.YtfmkeeaenjeneaaGreatDoorGcS
import Derived.Test.YtfmkeeaenjeneaaGreatDoorGfW
import Derived.Test.YtfmkeeaenjeneaaGreatDoorRegK
import Derived.Test.YtfmkeeaenjeneaaGreatDoorGfA
import Derived.Deep.RegionHeld
import Derived.Deep.MidRow
import Derived.Test.YtfmkeeaenjeneaaGreatDoorGcR
import Derived.Test.YtfmkeeaenjeneaaGreatDoorRtWrite
import Derived.Test.YtfmkeeaenjeneaaGreatDoorRtOk
namespace Go.Proofs.YtfmkeeaenjeneaaGreatDoor
open Go.RowKit Go.Sort
set_option linter.unusedVariables false
set_option linter.unusedSimpArgs false

def ForkP (w : World) (T : TS) (B : List UInt8) (e : Ending) (w' : World) : Prop := ∃ t2 O2, e = .returned (.pointer (some ⟨t2, 0, none⟩)) ∧ TmS w' w.heap.size t2 T B O2 ∧ Below w.heap.size w w'
theorem xs32 {xs : List Value} (h : xs.length = 32) : ∃ x0 x1 x2 x3 x4 x5 x6 x7 x8 x9 x10 x11 x12 x13 x14 x15 x16 x17 x18 x19 x20 x21 x22 x23 x24 x25 x26 x27 x28 x29 x30 x31 : Value, xs = [x0, x1, x2, x3, x4, x5, x6, x7, x8, x9, x10, x11, x12, x13, x14, x15, x16, x17, x18, x19, x20, x21, x22, x23, x24, x25, x26, x27, x28, x29, x30, x31] := by
  match xs, h with
  | [x0, x1, x2, x3, x4, x5, x6, x7, x8, x9, x10, x11, x12, x13, x14, x15, x16, x17, x18, x19, x20, x21, x22, x23, x24, x25, x26, x27, x28, x29, x30, x31], _ => exact ⟨x0, x1, x2, x3, x4, x5, x6, x7, x8, x9, x10, x11, x12, x13, x14, x15, x16, x17, x18, x19, x20, x21, x22, x23, x24, x25, x26, x27, x28, x29, x30, x31, rfl⟩
theorem un_size : (Tryz.prog.info? 61).map (·.size) = some 33 := by kernel_rfl
theorem enters_gfork : ∀ args w, (callFunc 30 args).run Tryz.prog w = .ok (.enter 30 args) w := enters_of Tryz.func30 (by kernel_rfl) rfl
set_option maxRecDepth 100000 in
set_option maxHeartbeats 8000000 in
theorem tfork_any {w : World} {lo t g rb : Nat} {bs : List Nat} {T : TS} {B : List UInt8} (h : TmAt w lo t g rb bs T B) (hT : BlankT w) :
    Calls Tryz.prog 13 #[.pointer (some ⟨t, 0, none⟩)] w fun e w' => ForkP w T B e w' := by
  obtain ⟨xs, hx1, hx2, hx3⟩ := h.blk
  have c0 := h.cell 0 (by omega)
  simp only [tmc, stc, List.getElem?_cons_zero] at c0
  have HT := Lib.hid hT
  have HX2 := Lib.hid hx2
  have hrow := h.row
  have hcol := h.col
  have hb32 := h.b32
  obtain ⟨x0, x1, x2, x3, x4, x5, x6, x7, x8, x9, x10, x11, x12, x13, x14, x15, x16, x17, x18, x19, x20, x21, x22, x23, x24, x25, x26, x27, x28, x29, x30, x31, hxs⟩ := xs32 hx1
  obtain ⟨m, hm⟩ : ∃ m, m = B.length := ⟨_, rfl⟩
  have HK9 : Hid (∀ w', Below w.heap.size w w' → Below w.heap.size w w' ∧ w'.cell? ⟨t, 1, none⟩ = some (.pointer (some ⟨g, 0, none⟩)) ∧ w'.rangeAt t 2 [.int .i64 T.row, .int .i64 T.col, .bool T.y.b, .bool T.y.u, .bool T.y.i, .int .i64 T.y.f, .int .i64 T.y.g, .bool T.pend, .bool T.seen, .bool T.mark, .int .i64 T.scr, .int .i64 T.bells, .int .i64 T.lr, .int .i64 T.lc, .bool T.joins] ∧ w'.rangeAt t 17 [x0, x1, x2, x3, x4, x5, x6, x7, x8, x9, x10, x11, x12, x13, x14, x15, x16, x17, x18, x19, x20, x21, x22, x23, x24, x25, x26, x27, x28, x29, x30, x31, .int .i64 m]) := Lib.hid (fun w' hb => by
    have h3 := hx3.below hb hx3.lt
    refine ⟨hb, h3.cell 1, (h.below hb).state, h3.range 17 _ fun j v hv => ?_⟩
    have e : tmc t g T xs B.length = (.pointer (some ⟨t, 0, none⟩) :: .pointer (some ⟨g, 0, none⟩) :: stc T) ++ (xs ++ [.int .i64 B.length]) := rfl
    rw [e, List.getElem?_append_right (by simp [stc]), hxs, ← hm]
    have e2 : 17 + j - (Value.pointer (some ⟨t, 0, none⟩) :: .pointer (some ⟨g, 0, none⟩) :: stc T).length = j := by simp [stc]
    rw [e2]
    exact hv)
  have HL58 : Hid (∀ w', w'.rangeAt t 2 [.int .i64 T.row, .int .i64 T.col, .bool T.y.b, .bool T.y.u, .bool T.y.i, .int .i64 T.y.f, .int .i64 T.y.g, .bool T.pend, .bool T.seen, .bool T.mark, .int .i64 T.scr, .int .i64 T.bells, .int .i64 T.lr, .int .i64 T.lc, .bool T.joins] → (Instr.loadAt 58 (.pointer (some ⟨t, 2, none⟩))).run Tryz.prog w' = .ok (.agg #[.int .i64 T.row, .int .i64 T.col, .bool T.y.b, .bool T.y.u, .bool T.y.i, .int .i64 T.y.f, .int .i64 T.y.g, .bool T.pend, .bool T.seen, .bool T.mark, .int .i64 T.scr, .int .i64 T.bells, .int .i64 T.lr, .int .i64 T.lc, .bool T.joins]) w') := Lib.hid (fun w' hr => run_loadAt_mid w' t 2 58 _ _ hr Tryz.underlying58 rfl st_size)
  have HL61 : Hid (∀ w', w'.rangeAt t 17 [x0, x1, x2, x3, x4, x5, x6, x7, x8, x9, x10, x11, x12, x13, x14, x15, x16, x17, x18, x19, x20, x21, x22, x23, x24, x25, x26, x27, x28, x29, x30, x31, .int .i64 m] → (Instr.loadAt 61 (.pointer (some ⟨t, 17, none⟩))).run Tryz.prog w' = .ok (.agg #[x0, x1, x2, x3, x4, x5, x6, x7, x8, x9, x10, x11, x12, x13, x14, x15, x16, x17, x18, x19, x20, x21, x22, x23, x24, x25, x26, x27, x28, x29, x30, x31, .int .i64 m]) w') := Lib.hid (fun w' hr => run_loadAt_mid w' t 17 61 _ _ hr Tryz.underlying61 rfl un_size)
  have HFK : Hid (∀ W, Below w.heap.size w W → Calls Tryz.prog 30 #[.pointer (some ⟨g, 0, none⟩)] W fun e w' => ∃ g2 rb2 bs2, e = .returned (.pointer (some ⟨g2, 0, none⟩)) ∧ GrAt w' w.heap.size g2 rb2 bs2 T.W T.L ∧ Below w.heap.size w w') := Lib.hid (fun W hW => by
    refine (fork_any (h.below hW).grid (hT.bel hW)).mono ?_
    rintro e w' ⟨g2, rb2, bs2, he, hg, hb⟩
    exact ⟨g2, rb2, bs2, he, { hg with lo := fun k hk => Nat.le_trans hW.size (hg.lo k hk) }, hW.trans (hb.mono hW.size)⟩)
  have HXS := Lib.hid hxs
  have HX1 := Lib.hid hx1
  have HM := Lib.hid hm
  clear h hT hx1 hx2 hx3 hxs hm
  have HDR := Lib.hid ((Below.refl w.heap.size w).drew)
  go_enter Tryz.func13, Tryz.ntmps13
  go_upto_region 3 with (go_at_call 24; refine (tmade_yes t w c0).mono ?_; rintro e w' ⟨rfl, rfl⟩)
  clear c0
  have HSD : Hid ((fun W : World => W.cell? ⟨t, 1, none⟩ = some (.pointer (some ⟨g, 0, none⟩)) ∧ W.rangeAt t 2 [.int .i64 T.row, .int .i64 T.col, .bool T.y.b, .bool T.y.u, .bool T.y.i, .int .i64 T.y.f, .int .i64 T.y.g, .bool T.pend, .bool T.seen, .bool T.mark, .int .i64 T.scr, .int .i64 T.bells, .int .i64 T.lr, .int .i64 T.lc, .bool T.joins] ∧ W.rangeAt t 17 [x0, x1, x2, x3, x4, x5, x6, x7, x8, x9, x10, x11, x12, x13, x14, x15, x16, x17, x18, x19, x20, x21, x22, x23, x24, x25, x26, x27, x28, x29, x30, x31, .int .i64 m]) w.drew) := Lib.hid (HK9.out _ HDR.out).2
  refine wp_region_K (fun W : World => W.cell? ⟨t, 1, none⟩ = some (.pointer (some ⟨g, 0, none⟩)) ∧ W.rangeAt t 2 [.int .i64 T.row, .int .i64 T.col, .bool T.y.b, .bool T.y.u, .bool T.y.i, .int .i64 T.y.f, .int .i64 T.y.g, .bool T.pend, .bool T.seen, .bool T.mark, .int .i64 T.scr, .int .i64 T.bells, .int .i64 T.lr, .int .i64 T.lc, .bool T.joins] ∧ W.rangeAt t 17 [x0, x1, x2, x3, x4, x5, x6, x7, x8, x9, x10, x11, x12, x13, x14, x15, x16, x17, x18, x19, x20, x21, x22, x23, x24, x25, x26, x27, x28, x29, x30, x31, .int .i64 m]) 15 (by kernel_rfl) ?_
  refine wpAnyK_takeP (i := 0) (v := ?v0) rfl (by kernel_rfl) (by kernel_rfl) (by kernel_rfl) (by kernel_rfl) (fun _ _ _ h => h) (Or.inl ⟨by rfl, fun w hSw => ?hy0⟩) (.inr HSD.out) ?rest0
  case hy0 =>
    go_simp
    try with_reducible rfl
  change wpAnyK _ _ _ _ _ _ _ _ (Act.put _ (some 7) _) _
  try simp only [Act.put, List.setIfInBounds_toArray, List.set_cons_zero, List.set_cons_succ]
  refine wpAnyK_takeP (i := 1) (v := ?v1) rfl (by kernel_rfl) (by kernel_rfl) (by kernel_rfl) (by kernel_rfl) (fun _ _ _ h => h) (Or.inl ⟨by rfl, fun w hSw => ?hy1⟩) (.inr HSD.out) ?rest1
  case hy1 =>
    go_simp
    try with_reducible rfl
  change wpAnyK _ _ _ _ _ _ _ _ (Act.put _ (some 8) _) _
  try simp only [Act.put, List.setIfInBounds_toArray, List.set_cons_zero, List.set_cons_succ]
  refine wpAnyK_takeP (i := 2) (v := ?v2) rfl (by kernel_rfl) (by kernel_rfl) (by kernel_rfl) (by kernel_rfl) (fun _ _ _ h => h) (Or.inl ⟨by rfl, fun w hSw => ?hy2⟩) (.inr HSD.out) ?rest2
  case hy2 =>
    go_simp
    try with_reducible rfl
  change wpAnyK _ _ _ _ _ _ _ _ (Act.put _ (some 9) _) _
  try simp only [Act.put, List.setIfInBounds_toArray, List.set_cons_zero, List.set_cons_succ]
  refine wpAnyK_take (i := 3) (v := .pointer (some ⟨g, 0, none⟩)) rfl (by kernel_rfl) (by kernel_rfl) (by kernel_rfl) (by kernel_rfl) (fun _ _ _ h => h) (Or.inl ⟨by rfl, fun w hSw => ?hy3⟩) HSD.out ?rest3
  case hy3 =>
    have s1 : w.cell? ⟨t, 1, none⟩ = some (.pointer (some ⟨g, 0, none⟩)) := hSw.1
    clear hSw
    go_simp
    try with_reducible rfl
  change wpAnyK _ _ _ _ _ _ _ _ (Act.put _ (some 10) _) _
  try simp only [Act.put, List.setIfInBounds_toArray, List.set_cons_zero, List.set_cons_succ]
  refine wpAnyK_takeP (i := 5) (v := ?v5) rfl (by kernel_rfl) (by kernel_rfl) (by kernel_rfl) (by kernel_rfl) (fun _ _ _ h => h) (Or.inl ⟨by rfl, fun w hSw => ?hy5⟩) (.inr HSD.out) ?rest5
  case hy5 =>
    go_simp
    try with_reducible rfl
  change wpAnyK _ _ _ _ _ _ _ _ (Act.put _ (some 12) _) _
  try simp only [Act.put, List.setIfInBounds_toArray, List.set_cons_zero, List.set_cons_succ]
  refine wpAnyK_takeP (i := 6) (v := ?v6) rfl (by kernel_rfl) (by kernel_rfl) (by kernel_rfl) (by kernel_rfl) (fun _ _ _ h => h) (Or.inl ⟨by rfl, fun w hSw => ?hy6⟩) (.inr HSD.out) ?rest6
  case hy6 =>
    go_simp
    try with_reducible rfl
  change wpAnyK _ _ _ _ _ _ _ _ (Act.put _ (some 13) _) _
  try simp only [Act.put, List.setIfInBounds_toArray, List.set_cons_zero, List.set_cons_succ]
  refine wpAnyK_takeP (i := 7) (v := ?v7) rfl (by kernel_rfl) (by kernel_rfl) (by kernel_rfl) (by kernel_rfl) (fun _ _ _ h => h) (Or.inl ⟨by rfl, fun w hSw => ?hy7⟩) (.inr HSD.out) ?rest7
  case hy7 =>
    go_simp
    try with_reducible rfl
  change wpAnyK _ _ _ _ _ _ _ _ (Act.put _ (some 14) _) _
  try simp only [Act.put, List.setIfInBounds_toArray, List.set_cons_zero, List.set_cons_succ]
  refine wpAnyK_take (i := 8) (v := .agg #[.int .i64 T.row, .int .i64 T.col, .bool T.y.b, .bool T.y.u, .bool T.y.i, .int .i64 T.y.f, .int .i64 T.y.g, .bool T.pend, .bool T.seen, .bool T.mark, .int .i64 T.scr, .int .i64 T.bells, .int .i64 T.lr, .int .i64 T.lc, .bool T.joins]) rfl (by kernel_rfl) (by kernel_rfl) (by kernel_rfl) (by kernel_rfl) (fun _ _ _ h => h) (yieldsIf_load_mid (by rfl) _ _ rfl t 2 rfl [.int .i64 T.row, .int .i64 T.col, .bool T.y.b, .bool T.y.u, .bool T.y.i, .int .i64 T.y.f, .int .i64 T.y.g, .bool T.pend, .bool T.seen, .bool T.mark, .int .i64 T.scr, .int .i64 T.bells, .int .i64 T.lr, .int .i64 T.lc, .bool T.joins] _ (fun w h => h.2.1) Tryz.underlying58 rfl st_size) HSD.out ?_
  change wpAnyK _ _ _ _ _ _ _ _ (Act.put _ (some 15) _) _
  try simp only [Act.put, List.setIfInBounds_toArray, List.set_cons_zero, List.set_cons_succ]
  refine wpAnyK_takeP (i := 9) (v := ?v9) rfl (by kernel_rfl) (by kernel_rfl) (by kernel_rfl) (by kernel_rfl) (fun _ _ _ h => h) (Or.inl ⟨by rfl, fun w hSw => ?hy9⟩) (.inr HSD.out) ?rest9
  case hy9 =>
    go_simp
    try with_reducible rfl
  change wpAnyK _ _ _ _ _ _ _ _ (Act.put _ (some 16) _) _
  try simp only [Act.put, List.setIfInBounds_toArray, List.set_cons_zero, List.set_cons_succ]
  refine wpAnyK_takeP (i := 10) (v := ?v10) rfl (by kernel_rfl) (by kernel_rfl) (by kernel_rfl) (by kernel_rfl) (fun _ _ _ h => h) (Or.inl ⟨by rfl, fun w hSw => ?hy10⟩) (.inr HSD.out) ?rest10
  case hy10 =>
    go_simp
    try with_reducible rfl
  change wpAnyK _ _ _ _ _ _ _ _ (Act.put _ (some 17) _) _
  try simp only [Act.put, List.setIfInBounds_toArray, List.set_cons_zero, List.set_cons_succ]
  refine wpAnyK_takeP (i := 11) (v := ?v11) rfl (by kernel_rfl) (by kernel_rfl) (by kernel_rfl) (by kernel_rfl) (fun _ _ _ h => h) (Or.inl ⟨by rfl, fun w hSw => ?hy11⟩) (.inr HSD.out) ?rest11
  case hy11 =>
    go_simp
    try with_reducible rfl
  change wpAnyK _ _ _ _ _ _ _ _ (Act.put _ (some 18) _) _
  try simp only [Act.put, List.setIfInBounds_toArray, List.set_cons_zero, List.set_cons_succ]
  refine wpAnyK_take (i := 12) (v := .agg #[x0, x1, x2, x3, x4, x5, x6, x7, x8, x9, x10, x11, x12, x13, x14, x15, x16, x17, x18, x19, x20, x21, x22, x23, x24, x25, x26, x27, x28, x29, x30, x31, .int .i64 m]) rfl (by kernel_rfl) (by kernel_rfl) (by kernel_rfl) (by kernel_rfl) (fun _ _ _ h => h) (yieldsIf_load_mid (by rfl) _ _ rfl t 17 rfl [x0, x1, x2, x3, x4, x5, x6, x7, x8, x9, x10, x11, x12, x13, x14, x15, x16, x17, x18, x19, x20, x21, x22, x23, x24, x25, x26, x27, x28, x29, x30, x31, .int .i64 m] _ (fun w h => h.2.2) Tryz.underlying61 rfl un_size) HSD.out ?_
  change wpAnyK _ _ _ _ _ _ _ _ (Act.put _ (some 19) _) _
  try simp only [Act.put, List.setIfInBounds_toArray, List.set_cons_zero, List.set_cons_succ]
  refine wpAnyK_only (i := 4) (by kernel_rfl) rfl (fun K hK => ?_)
  refine step_call rfl 30 _ _ rfl enters_gfork #[.pointer (some ⟨g, 0, none⟩)] (by simp [Act.eval, Act.put]) (HFK.out _ HDR.out) ?_
  rintro e wx ⟨g2, rb2, bs2, rfl, hgx, hbx⟩
  refine ⟨_, rfl, ?_⟩
  have HGX := Lib.hid hgx
  have HBX := Lib.hid hbx
  have HSX : Hid ((fun W : World => W.cell? ⟨t, 1, none⟩ = some (.pointer (some ⟨g, 0, none⟩)) ∧ W.rangeAt t 2 [.int .i64 T.row, .int .i64 T.col, .bool T.y.b, .bool T.y.u, .bool T.y.i, .int .i64 T.y.f, .int .i64 T.y.g, .bool T.pend, .bool T.seen, .bool T.mark, .int .i64 T.scr, .int .i64 T.bells, .int .i64 T.lr, .int .i64 T.lc, .bool T.joins] ∧ W.rangeAt t 17 [x0, x1, x2, x3, x4, x5, x6, x7, x8, x9, x10, x11, x12, x13, x14, x15, x16, x17, x18, x19, x20, x21, x22, x23, x24, x25, x26, x27, x28, x29, x30, x31, .int .i64 m]) wx) := Lib.hid (HK9.out _ hbx).2
  refine hK.out _ _ (.inr HSX.out) ?_
  clear hK K hgx hbx
  change wpAnyK _ _ _ _ _ _ _ _ (Act.put _ (some 11) _) _
  try simp only [Act.put, List.setIfInBounds_toArray, List.set_cons_zero, List.set_cons_succ]
  refine wpAnyK_only (i := 13) (by kernel_rfl) rfl (fun K hK => ?_)
  go_simp
  refine hK.out _ _ (.inr HSX.out) ?_
  clear hK K
  try simp only [Act.put, List.setIfInBounds_toArray, List.set_cons_zero, List.set_cons_succ]
  refine wpAnyK_only (i := 14) (by kernel_rfl) rfl (fun K hK => ?_)
  go_simp
  have HSY : Hid ((fun W : World => W.cell? ⟨t, 1, none⟩ = some (.pointer (some ⟨g, 0, none⟩)) ∧ W.rangeAt t 2 [.int .i64 T.row, .int .i64 T.col, .bool T.y.b, .bool T.y.u, .bool T.y.i, .int .i64 T.y.f, .int .i64 T.y.g, .bool T.pend, .bool T.seen, .bool T.mark, .int .i64 T.scr, .int .i64 T.bells, .int .i64 T.lr, .int .i64 T.lc, .bool T.joins] ∧ W.rangeAt t 17 [x0, x1, x2, x3, x4, x5, x6, x7, x8, x9, x10, x11, x12, x13, x14, x15, x16, x17, x18, x19, x20, x21, x22, x23, x24, x25, x26, x27, x28, x29, x30, x31, .int .i64 m]) (wx.alloc (.cells #[.pointer none, .pointer (some ⟨g2, 0, none⟩), .int .i64 T.row, .int .i64 T.col, .bool T.y.b, .bool T.y.u, .bool T.y.i, .int .i64 T.y.f, .int .i64 T.y.g, .bool T.pend, .bool T.seen, .bool T.mark, .int .i64 T.scr, .int .i64 T.bells, .int .i64 T.lr, .int .i64 T.lc, .bool T.joins, x0, x1, x2, x3, x4, x5, x6, x7, x8, x9, x10, x11, x12, x13, x14, x15, x16, x17, x18, x19, x20, x21, x22, x23, x24, x25, x26, x27, x28, x29, x30, x31, .int .i64 m] 63))) := Lib.hid ((HK9.out _ (HBX.out.alloc HBX.out.size _)).2)
  refine hK.out _ _ (.inr HSY.out) ?_
  clear hK K
  try simp only [Act.put, List.setIfInBounds_toArray, List.set_cons_zero, List.set_cons_succ]
  refine wpAnyK_only (i := 15) (by kernel_rfl) rfl (fun K hK => ?_)
  go_simp
  refine hK.out _ _ (.inl (by kernel_rfl)) ?_
  clear hK K
  try simp only [Act.put, List.setIfInBounds_toArray, List.set_cons_zero, List.set_cons_succ]
  refine wpAnyK_done (by kernel_rfl) ?_ _
  have HNB := Lib.hid (Blk.new wx 63 [.pointer none, .pointer (some ⟨g2, 0, none⟩), .int .i64 T.row, .int .i64 T.col, .bool T.y.b, .bool T.y.u, .bool T.y.i, .int .i64 T.y.f, .int .i64 T.y.g, .bool T.pend, .bool T.seen, .bool T.mark, .int .i64 T.scr, .int .i64 T.bells, .int .i64 T.lr, .int .i64 T.lc, .bool T.joins, x0, x1, x2, x3, x4, x5, x6, x7, x8, x9, x10, x11, x12, x13, x14, x15, x16, x17, x18, x19, x20, x21, x22, x23, x24, x25, x26, x27, x28, x29, x30, x31, .int .i64 m])
  have hz : wx.heap.size < (wx.alloc (.cells #[.pointer none, .pointer (some ⟨g2, 0, none⟩), .int .i64 T.row, .int .i64 T.col, .bool T.y.b, .bool T.y.u, .bool T.y.i, .int .i64 T.y.f, .int .i64 T.y.g, .bool T.pend, .bool T.seen, .bool T.mark, .int .i64 T.scr, .int .i64 T.bells, .int .i64 T.lr, .int .i64 T.lc, .bool T.joins, x0, x1, x2, x3, x4, x5, x6, x7, x8, x9, x10, x11, x12, x13, x14, x15, x16, x17, x18, x19, x20, x21, x22, x23, x24, x25, x26, x27, x28, x29, x30, x31, .int .i64 m] 63)).heap.size := by simp
  go_wp2_with ((with_reducible refine at_store 25 ?_); refine wpList_store_cell rfl _ _ _ rfl rfl wx.heap.size 0 _ [.pointer none, .pointer (some ⟨g2, 0, none⟩), .int .i64 T.row, .int .i64 T.col, .bool T.y.b, .bool T.y.u, .bool T.y.i, .int .i64 T.y.f, .int .i64 T.y.g, .bool T.pend, .bool T.seen, .bool T.mark, .int .i64 T.scr, .int .i64 T.bells, .int .i64 T.lr, .int .i64 T.lc, .bool T.joins, x0, x1, x2, x3, x4, x5, x6, x7, x8, x9, x10, x11, x12, x13, x14, x15, x16, x17, x18, x19, x20, x21, x22, x23, x24, x25, x26, x27, x28, x29, x30, x31, .int .i64 m] (.pointer (some ⟨wx.heap.size, 0, none⟩)) rfl rfl HNB.out (by simp) (by kernel_rfl) rfl ?_; intro w9 hn hg; have HN9 : Hid (Blk w9 wx.heap.size 63 [.pointer (some ⟨wx.heap.size, 0, none⟩), .pointer (some ⟨g2, 0, none⟩), .int .i64 T.row, .int .i64 T.col, .bool T.y.b, .bool T.y.u, .bool T.y.i, .int .i64 T.y.f, .int .i64 T.y.g, .bool T.pend, .bool T.seen, .bool T.mark, .int .i64 T.scr, .int .i64 T.bells, .int .i64 T.lr, .int .i64 T.lc, .bool T.joins, x0, x1, x2, x3, x4, x5, x6, x7, x8, x9, x10, x11, x12, x13, x14, x15, x16, x17, x18, x19, x20, x21, x22, x23, x24, x25, x26, x27, x28, x29, x30, x31, .int .i64 m]) := Lib.hid hn; have HG9 := Lib.hid hg; clear hn hg)
  go_ret
  have hb9 : Below wx.heap.size wx w9 := ((Below.refl _ _).alloc (Nat.le_refl _) _).grown HG9.out (by simp) (fun j hj => by injection hj with hj; omega)
  have hgr := HGX.out.below hb9
  refine ⟨wx.heap.size, _, rfl, ⟨g2, rb2, bs2, ⟨⟨xs, HX1.out, HX2.out, ?_⟩, hgr, HBX.out.size, hrow, hcol, hb32⟩, rfl⟩, HBX.out.trans (hb9.mono HBX.out.size)⟩
  have h9 := HN9.out
  rw [HM.out] at h9
  rw [HXS.out]
  exact h9
end Go.Proofs.YtfmkeeaenjeneaaGreatDoor

namespace Go.Proofs.YtfmkeeaenjeneaaGreatDoor
open Go.RowKit Go.Sort
set_option linter.unusedVariables false
set_option linter.unusedSimpArgs false

set_option maxRecDepth 100000 in
set_option maxHeartbeats 8000000 in
theorem rtresize_ok {w : World} {D : Nat → Prop} {A : Option Addr} {c : Nat} {T : TS} {vB : Value} (h : RfAt w D A c T.L) (hk : TOk T) (hv : vB.oneCell' = true) (x y : Nat) (x1 : 1 ≤ x) (x5 : x ≤ 500) (y1 : 1 ≤ y) (y5 : y ≤ 500) :
    Calls Tryz.prog 11 #[.agg #[.int .i64 T.W, .int .i64 T.L.length, .slice A T.L.length c, .int .i64 T.row, .int .i64 T.col, .bool T.y.b, .bool T.y.u, .bool T.y.i, .int .i64 T.y.f, .int .i64 T.y.g, .bool T.pend, .bool T.seen, .bool T.mark, .int .i64 T.bells, .int .i64 T.scr, vB, .bool T.joins, .int .i64 T.lr, .int .i64 T.lc], .int .i64 x, .int .i64 y] w fun e w' => ∃ V, e = .returned (.tuple #[V, .int .i64 0]) ∧ RtV w' (fun b => D b ∨ w.heap.size ≤ b) V (rszT T x y) vB ∧ Below w.heap.size w w' := by
  have hrow := hk.row
  have hcol := hk.col
  have hw5 := hk.q.w5
  have hh5 := hk.q.h5
  obtain ⟨K, hK⟩ : ∃ K, K = topM T.row y := ⟨_, rfl⟩
  have hKr : K ≤ T.row := by rw [hK]; unfold topM; omega
  obtain ⟨L2, hL2⟩ : ∃ L2, L2 = resizeM T.L x y T.row := ⟨_, rfl⟩
  have HM : Hid (rszM T.W T.L x y T.row = (L2, x, (K : Int), 0)) := Lib.hid (by
    unfold rszM
    rw [if_neg (by simp [sideB]; omega), if_neg (by simp [inB]; have := hk.q.w1; omega)]
    simp only [Int.toNat_natCast]
    rw [← hK, ← hL2])
  have HRZ : Hid (∀ W A c, RfAt W (DD w D) A c T.L → Calls Tryz.prog 28 #[.agg #[.int .i64 T.W, .int .i64 T.L.length, .slice A T.L.length c], .int .i64 x, .int .i64 y, .int .i64 T.row] W fun e w' => ∃ A2 c2, e = .returned (.tuple #[.agg #[.int .i64 x, .int .i64 L2.length, .slice A2 L2.length c2], .int .i64 K, .int .i64 0]) ∧ RfAt w' (fun b => DD w D b ∨ W.heap.size ≤ b) A2 c2 L2 ∧ Below W.heap.size W w') := Lib.hid (fun W A c hr => by
    have h9 := rresize_any hr hk.q x y T.row
    rw [HM.out] at h9
    refine h9.mono ?_
    rintro e w' ⟨V, rfl, ⟨A2, c2, rfl, hr2⟩, hb⟩
    exact ⟨A2, c2, rfl, hr2, hb⟩)
  have HR : Hid (rszT T x y = { T with W := x, L := L2, scr := wrap64 (T.scr + (K : Int)), row := T.row - K, col := min T.col (x - 1), pend := false, joins := false }) := Lib.hid (by unfold rszT; rw [← hK, ← hL2])
  have hrk : (T.row : Int) - (K : Int) = ((T.row - K : Nat) : Int) := by omega
  have hmn : min (T.col : Int) ((x : Int) - 1) = ((min T.col (x - 1) : Nat) : Int) := by omega
  have HRK := Lib.hid hrk
  have HMN := Lib.hid hmn
  have hxi : 1 ≤ (x : Int) := by omega
  have hxi5 : (x : Int) ≤ 500 := by omega
  have hki : (K : Int) ≤ 500 := by omega
  have hri : (T.row : Int) ≤ 500 := by omega
  have hci : (T.col : Int) ≤ 500 := by omega
  have HV := Lib.hid hv
  obtain ⟨W0, HW0, HS0⟩ := rt_start (vB := vB) h
  have e0_0 : W0.cell? ⟨w.heap.size, 0, none⟩ = some (.int .i64 T.W) := HS0.out.x.cell 0
  have e0_1 : W0.cell? ⟨w.heap.size, 1, none⟩ = some (.int .i64 T.L.length) := HS0.out.x.cell 1
  have e0_2 : W0.cell? ⟨w.heap.size, 2, none⟩ = some (.slice A T.L.length c) := HS0.out.x.cell 2
  have e0_3 : W0.cell? ⟨w.heap.size, 3, none⟩ = some (.int .i64 T.row) := HS0.out.x.cell 3
  clear h hk hv hrk hmn hK hL2
  go_enter Tryz.func11, Tryz.ntmps11
  go_upto_region 1 with fail
  rw [← HW0.out]
  clear HW0
  go_wp2_with (first
    | (go_at_call 28; refine (HRZ.out _ _ _ HS0.out.g).mono ?_; rintro e w1 ⟨A2, c2, rfl, hr1, hb1⟩; have HS1 := Lib.hid (HS0.out.below hb1); have HR1 := Lib.hid (RtS.rowsD HS0.out hr1); have HN1 := Lib.hid (Blk.new w1 29 (rgC 0 0 none 0)); clear hr1 hb1 e0_0 e0_1 e0_2 e0_3)
    | ((with_reducible refine at_store 8 ?_); refine wpList_store_blk rfl _ _ _ rfl rfl w1.heap.size 0 _ (rgC 0 0 none 0) [.int .i64 x, .int .i64 L2.length, .slice A2 L2.length c2] rfl rfl HN1.out (by simp [rgC]) rg_size (by intro v hv; simp at hv; rcases hv with rfl | rfl | rfl <;> rfl) ?_; intro w2 hn2 hg2; have hb2 : Below w1.heap.size w1 w2 := ((Below.refl _ _).alloc (Nat.le_refl _) _).grown hg2 (by simp) (fun j hj => by injection hj with hj; omega); have HG2 := Lib.hid (show Blk w2 w1.heap.size 29 [.int .i64 x, .int .i64 L2.length, .slice A2 L2.length c2] from hn2); have HR2 := Lib.hid (HR1.out.below hb2); have HS2 := Lib.hid (HS1.out.below hb2); clear hn2 hg2 hb2)
    | ((with_reducible refine at_dst 25 ?_); refine wpList_load_mid rfl _ _ rfl w1.heap.size 0 rfl [.int .i64 x, .int .i64 L2.length, .slice A2 L2.length c2] _ HG2.out.whole Tryz.underlying29 rfl rg_size ?_)
    | ((with_reducible refine at_store 26 ?_); refine wpList_store_blk rfl _ _ _ rfl rfl w.heap.size 0 _ (rtC T A c vB) [.int .i64 x, .int .i64 L2.length, .slice A2 L2.length c2] rfl rfl HS2.out.x (by simp [rtC]) rg_size (by intro v hv; simp at hv; rcases hv with rfl | rfl | rfl <;> rfl) ?_; intro w3 hn hg; have HS3 := Lib.hid (HS2.out.put (T' := { T with W := x, L := L2 }) (A' := A2) (c' := c2) (c := c) (A := A) HR2.out hg (by simpa [splice, rtC] using hn)); have e3 : w3.cell? ⟨w.heap.size, 14, none⟩ = some (.int .i64 T.scr) := HS3.out.x.cell 14; clear hn hg)
    | ((with_reducible refine at_store 31 ?_); refine wpList_store_cell rfl _ _ _ rfl rfl w.heap.size 14 _ (rtC { T with W := x, L := L2 } A2 c2 vB) (.int .i64 (wrap64 (T.scr + (K : Int)))) rfl rfl HS3.out.x (by simp [rtC]) (by kernel_rfl) rfl ?_; intro w4 hn hg; have HS4 := Lib.hid (HS3.out.set (T' := { T with W := x, L := L2, scr := wrap64 (T.scr + (K : Int)) }) hg hn rfl); have e4 : w4.cell? ⟨w.heap.size, 3, none⟩ = some (.int .i64 T.row) := HS4.out.x.cell 3; have e4b : w4.cell? ⟨w.heap.size, 4, none⟩ = some (.int .i64 T.col) := HS4.out.x.cell 4; clear e3; clear hn hg)
    | ((with_reducible refine at_store 41 ?_); refine wpList_store_cell rfl _ _ _ rfl rfl w.heap.size 3 _ (rtC { T with W := x, L := L2, scr := wrap64 (T.scr + (K : Int)) } A2 c2 vB) (.int .i64 ((T.row : Int) - (K : Int))) rfl rfl HS4.out.x (by simp [rtC]) (by kernel_rfl) rfl ?_; intro w5 hn hg; rw [HRK.out] at hn; have HS5 := Lib.hid (HS4.out.set (T' := { T with W := x, L := L2, scr := wrap64 (T.scr + (K : Int)), row := T.row - K }) hg hn rfl); clear e4 e4b; clear hn hg)
    | ((with_reducible refine at_store 42 ?_); refine wpList_store_cell rfl _ _ _ rfl rfl w.heap.size 4 _ (rtC { T with W := x, L := L2, scr := wrap64 (T.scr + (K : Int)), row := T.row - K } A2 c2 vB) (.int .i64 (min (T.col : Int) ((x : Int) - 1))) rfl rfl HS5.out.x (by simp [rtC]) (by kernel_rfl) rfl ?_; intro w6 hn hg; rw [HMN.out] at hn; have HS6 := Lib.hid (HS5.out.set (T' := { T with W := x, L := L2, scr := wrap64 (T.scr + (K : Int)), row := T.row - K, col := min T.col (x - 1) }) hg hn rfl); clear hn hg)
    | ((with_reducible refine at_store 43 ?_); refine wpList_store_cell rfl _ _ _ rfl rfl w.heap.size 10 _ (rtC { T with W := x, L := L2, scr := wrap64 (T.scr + (K : Int)), row := T.row - K, col := min T.col (x - 1) } A2 c2 vB) (.bool false) rfl rfl HS6.out.x (by simp [rtC]) (by kernel_rfl) rfl ?_; intro w7 hn hg; have HS7 := Lib.hid (HS6.out.set (T' := { T with W := x, L := L2, scr := wrap64 (T.scr + (K : Int)), row := T.row - K, col := min T.col (x - 1), pend := false }) hg hn rfl); clear hn hg)
    | ((with_reducible refine at_store 44 ?_); refine wpList_store_cell rfl _ _ _ rfl rfl w.heap.size 16 _ (rtC { T with W := x, L := L2, scr := wrap64 (T.scr + (K : Int)), row := T.row - K, col := min T.col (x - 1), pend := false } A2 c2 vB) (.bool false) rfl rfl HS7.out.x (by simp [rtC]) (by kernel_rfl) rfl ?_; intro w8 hn hg; have HS8 := Lib.hid (HS7.out.set (T' := { T with W := x, L := L2, scr := wrap64 (T.scr + (K : Int)), row := T.row - K, col := min T.col (x - 1), pend := false, joins := false }) hg hn rfl); clear hn hg)
    | ((with_reducible refine at_dst 45 ?_); refine wpList_load_mid rfl _ _ rfl w.heap.size 0 rfl (rtC { T with W := x, L := L2, scr := wrap64 (T.scr + (K : Int)), row := T.row - K, col := min T.col (x - 1), pend := false, joins := false } A2 c2 vB) _ HS8.out.x.whole Tryz.underlying34 rfl rt_size ?_)
    | ((with_reducible refine at_store 6 ?_); refine wpList_store_blk rfl _ _ _ rfl rfl (w.heap.size + 1) 0 _ rtZ (rtC { T with W := x, L := L2, scr := wrap64 (T.scr + (K : Int)), row := T.row - K, col := min T.col (x - 1), pend := false, joins := false } A2 c2 vB) rfl rfl HS8.out.z (by simp [rtC, rtZ]) rt_size (rtC_one _ _ _ HV.out) ?_; intro w9 hn9 hg9))
  rw [HR.out]
  exact bodyPost_ret (results_ct rfl rfl rfl hn9.whole Tryz.underlying34 rfl rt_size) rfl ⟨_, rfl, HS8.out.fin hg9⟩
set_option maxRecDepth 100000 in
set_option maxHeartbeats 8000000 in
theorem rtresize_no {w : World} {D : Nat → Prop} {A : Option Addr} {c : Nat} {T : TS} {vB : Value} (h : RfAt w D A c T.L) (hk : TOk T) (hv : vB.oneCell' = true) (x y : Int) (hbad : sideB x = false ∨ sideB y = false) :
    Calls Tryz.prog 11 #[.agg #[.int .i64 T.W, .int .i64 T.L.length, .slice A T.L.length c, .int .i64 T.row, .int .i64 T.col, .bool T.y.b, .bool T.y.u, .bool T.y.i, .int .i64 T.y.f, .int .i64 T.y.g, .bool T.pend, .bool T.seen, .bool T.mark, .int .i64 T.bells, .int .i64 T.scr, vB, .bool T.joins, .int .i64 T.lr, .int .i64 T.lc], .int .i64 x, .int .i64 y] w fun e w' => ∃ V, e = .returned (.tuple #[V, .int .i64 50]) ∧ RtV w' (fun b => D b ∨ w.heap.size ≤ b) V T vB ∧ Below w.heap.size w w' := by
  have HRZ : Hid (∀ W A c, RfAt W (DD w D) A c T.L → Calls Tryz.prog 28 #[.agg #[.int .i64 T.W, .int .i64 T.L.length, .slice A T.L.length c], .int .i64 x, .int .i64 y, .int .i64 T.row] W fun e w' => ∃ A2 c2, e = .returned (.tuple #[.agg #[.int .i64 T.W, .int .i64 T.L.length, .slice A2 T.L.length c2], .int .i64 0, .int .i64 40]) ∧ Below W.heap.size W w') := Lib.hid (fun W A c hr => by
    have h9 := rresize_any hr hk.q x y T.row
    have hm : rszM T.W T.L x y T.row = (T.L, T.W, 0, 40) := by unfold rszM; rw [if_pos hbad]
    rw [hm] at h9
    refine h9.mono ?_
    rintro e w' ⟨V, rfl, ⟨A2, c2, rfl, hr2⟩, hb⟩
    exact ⟨A2, c2, rfl, hb⟩)
  have HV := Lib.hid hv
  obtain ⟨W0, HW0, HS0⟩ := rt_start (vB := vB) h
  have e0_0 : W0.cell? ⟨w.heap.size, 0, none⟩ = some (.int .i64 T.W) := HS0.out.x.cell 0
  have e0_1 : W0.cell? ⟨w.heap.size, 1, none⟩ = some (.int .i64 T.L.length) := HS0.out.x.cell 1
  have e0_2 : W0.cell? ⟨w.heap.size, 2, none⟩ = some (.slice A T.L.length c) := HS0.out.x.cell 2
  have e0_3 : W0.cell? ⟨w.heap.size, 3, none⟩ = some (.int .i64 T.row) := HS0.out.x.cell 3
  clear h hk hv hbad
  go_enter Tryz.func11, Tryz.ntmps11
  go_upto_region 1 with fail
  rw [← HW0.out]
  clear HW0
  go_wp2_with (first
    | (go_at_call 28; refine (HRZ.out _ _ _ HS0.out.g).mono ?_; rintro e w1 ⟨A2, c2, rfl, hb1⟩; have HS1 := Lib.hid (HS0.out.below hb1); have HN1 := Lib.hid (Blk.new w1 29 (rgC 0 0 none 0)); clear hb1 e0_0 e0_1 e0_2 e0_3)
    | ((with_reducible refine at_store 8 ?_); refine wpList_store_blk rfl _ _ _ rfl rfl w1.heap.size 0 _ (rgC 0 0 none 0) [.int .i64 T.W, .int .i64 T.L.length, .slice A2 T.L.length c2] rfl rfl HN1.out (by simp [rgC]) rg_size (by intro v hv; simp at hv; rcases hv with rfl | rfl | rfl <;> rfl) ?_; intro w2 hn2 hg2; have hb2 : Below w1.heap.size w1 w2 := ((Below.refl _ _).alloc (Nat.le_refl _) _).grown hg2 (by simp) (fun j hj => by injection hj with hj; omega); have HS2 := Lib.hid (HS1.out.below hb2); clear hn2 hg2 hb2)
    | ((with_reducible refine at_dst 24 ?_); refine wpList_load_mid rfl _ _ rfl w.heap.size 0 rfl (rtC T A c vB) _ HS2.out.x.whole Tryz.underlying34 rfl rt_size ?_)
    | ((with_reducible refine at_store 6 ?_); refine wpList_store_blk rfl _ _ _ rfl rfl (w.heap.size + 1) 0 _ rtZ (rtC T A c vB) rfl rfl HS2.out.z (by simp [rtC, rtZ]) rt_size (rtC_one _ _ _ HV.out) ?_; intro w9 hn9 hg9))
  exact bodyPost_ret (results_ct rfl rfl rfl hn9.whole Tryz.underlying34 rfl rt_size) rfl ⟨_, rfl, HS2.out.fin hg9⟩
theorem rtresize_any {w : World} {D : Nat → Prop} {A : Option Addr} {c : Nat} {T : TS} {vB : Value} (h : RfAt w D A c T.L) (hk : TOk T) (hv : vB.oneCell' = true) (x y : Int) :
    Calls Tryz.prog 11 #[.agg #[.int .i64 T.W, .int .i64 T.L.length, .slice A T.L.length c, .int .i64 T.row, .int .i64 T.col, .bool T.y.b, .bool T.y.u, .bool T.y.i, .int .i64 T.y.f, .int .i64 T.y.g, .bool T.pend, .bool T.seen, .bool T.mark, .int .i64 T.bells, .int .i64 T.scr, vB, .bool T.joins, .int .i64 T.lr, .int .i64 T.lc], .int .i64 x, .int .i64 y] w fun e w' => ∃ V, e = .returned (.tuple #[V, .int .i64 (rszE x y)]) ∧ RtV w' (fun b => D b ∨ w.heap.size ≤ b) V (rszA T x y) vB ∧ Below w.heap.size w w' := by
  unfold rszA rszE
  by_cases hb : sideB x = false ∨ sideB y = false
  · rw [if_pos hb, if_pos hb]; exact rtresize_no h hk hv x y hb
  · rw [if_neg hb, if_neg hb]
    have hx : sideB x = true := by cases hq : sideB x; exact absurd (.inl hq) hb; rfl
    have hy : sideB y = true := by cases hq : sideB y; exact absurd (.inr hq) hb; rfl
    obtain ⟨X, rfl⟩ : ∃ X : Nat, x = X := ⟨x.toNat, by simp [sideB] at hx; omega⟩
    obtain ⟨Y, rfl⟩ : ∃ Y : Nat, y = Y := ⟨y.toNat, by simp [sideB] at hy; omega⟩
    simp only [sideB, decide_eq_true_eq] at hx hy
    have := rtresize_ok h hk hv X Y (by omega) (by omega) (by omega) (by omega)
    simpa only [Int.toNat_natCast] using this
end Go.Proofs.YtfmkeeaenjeneaaGreatDoor

namespace Go.Proofs.YtfmkeeaenjeneaaGreatDoor
open Go.RowKit
set_option linter.unusedVariables false
set_option linter.unusedSimpArgs false

def PdOk (T : TS) : Prop := T.pend = true → T.col + 1 = T.W
theorem PdOk.of_no {T : TS} (h : T.pend = false) : PdOk T := fun e => by rw [h] at e; cases e
theorem PdOk.feed {T : TS} : PdOk (feedT T) := PdOk.of_no (by unfold feedT; split <;> rfl)
theorem PdOk.move {T : TS} (r c : Int) : PdOk (moveT T r c) := PdOk.of_no rfl
theorem PdOk.store {T : TS} (h : PdOk T) (hw : 1 ≤ T.W) (b : List UInt8) (k : Nat) (hp : T.pend = false) : PdOk (storeT T b k) := by
  intro e
  unfold storeT at e ⊢
  by_cases h1 : T.col + k = T.W
  · simp only [h1, if_true] at e ⊢
    show T.W - 1 + 1 = T.W
    omega
  · simp only [h1, if_false] at e
    rw [hp] at e; cases e
theorem PdOk.print {T : TS} (h : PdOk T) (hk : TOk T) (b : List UInt8) (k : Nat) : PdOk (printT T b k) := by
  unfold printT
  have hw := hk.q.w1
  split
  · exact h
  · split
    · have hf : (feedT { T with col := 0 }).pend = false := by unfold feedT; split <;> rfl
      have e1 : (feedT { T with col := 0 }).W = T.W := by unfold feedT; split <;> rfl
      exact PdOk.store PdOk.feed (by rw [e1]; exact hw) b k hf
    · next hp => exact h.store hw b k (by cases hq : T.pend with | false => rfl | true => exact absurd (.inl hq) hp)
theorem PdOk.rune {T : TS} (h : PdOk T) (hk : TOk T) (r : Int) : PdOk (runeT T r) := by
  unfold runeT
  split
  · exact h.print hk _ _
  · split
    · unfold markT
      split
      · exact h
      · exact h
    · exact h
theorem PdOk.ctl {T : TS} (h : PdOk T) (c : UInt8) : PdOk (ctlT T c) := by
  unfold ctlT
  dsimp only
  split
  · exact h
  · split
    · exact PdOk.move _ _
    · split
      · exact PdOk.move _ _
      · split
        · exact PdOk.feed
        · split
          · exact PdOk.move _ _
          · exact h
theorem PdOk.rows {T : TS} (h : PdOk T) (fr fc tr tc : Nat) : ∀ n, PdOk (eraseRows T fr fc tr tc n) := by
  intro n
  induction n generalizing T with
  | zero => exact h
  | succ n ih => unfold eraseRows; exact ih h
theorem PdOk.erase {T : TS} (h : PdOk T) (n : Int) (a z : Nat) : PdOk (eraseT T n a z) := by
  unfold eraseT
  repeat' split
  all_goals first | exact h.rows _ _ _ _ _ | exact h
theorem PdOk.plain {T : TS} (h : PdOk T) (n m : Int) (f : UInt8) : PdOk (plainT T n m f) := by
  unfold plainT
  repeat' split
  all_goals first | exact PdOk.move _ _ | exact h.erase _ _ _ | exact h
theorem PdOk.modes {T : TS} (h : PdOk T) (l : List Int) (f : UInt8) : PdOk (modesT T l f) := by
  unfold modesT
  split
  · exact h
  · induction l generalizing T with
    | nil => exact h
    | cons n l ih =>
      rw [List.foldl_cons]
      refine ih ?_
      repeat' split
      all_goals exact h
theorem PdOk.exec {T : TS} (h : PdOk T) (p : List UInt8) (f : UInt8) : PdOk (execT T p f) := by
  unfold execT
  dsimp only
  generalize (if p.head? = some 63 then p.tail else p) = q
  by_cases h1 : areN q = false
  · rw [if_pos h1]; exact h
  · rw [if_neg h1]
    by_cases h2 : p.head? = some 63
    · rw [if_pos h2]; exact h.modes _ _
    · rw [if_neg h2]
      by_cases h3 : f = 109
      · rw [if_pos h3]; exact h
      · rw [if_neg h3]; exact h.plain _ _ _
theorem PdOk.step {T : TS} (h : PdOk T) (hk : TOk T) (B : List UInt8) : PdOk (stepT T B).1 := by
  cases B with
  | nil => exact h
  | cons c l =>
    by_cases h27 : c = 27
    · subst h27
      rw [stepT_esc]
      show PdOk (escT T _)
      unfold escT
      have h0 : PdOk { T with joins := false } := h
      split
      · exact h
      · split
        · exact h0.exec _ _
        · exact h0
    · by_cases h32 : c < 32 ∨ c = 127
      · rw [stepT_ctl h27 h32]; exact h.ctl c
      · rw [stepT_rune h27 h32]
        by_cases hm : (nx (c :: l)).2.2 = true
        · rw [if_pos hm]; exact h
        · rw [if_neg hm]
          generalize nx (c :: l) = p
          exact h.rune hk p.1
theorem PdOk.run {T : TS} (h : PdOk T) (hk : TOk T) : ∀ (f : Nat) (B : List UInt8), PdOk (runT f T B).1 := by
  intro f
  induction f generalizing T with
  | zero => intro B; exact h
  | succ f ih =>
    intro B
    rw [runT]
    split
    · exact h
    · exact ih (h.step hk B) (hk.step B) _
theorem PdOk.bytes {T : TS} (h : PdOk T) (hk : TOk T) (B : List UInt8) : PdOk (bytesT T B).1 := h.run hk _ _
theorem PdOk.resize {T : TS} (h : PdOk T) (x y : Int) : PdOk (rszA T x y) := by
  unfold rszA
  split
  · exact h
  · exact PdOk.of_no rfl
end Go.Proofs.YtfmkeeaenjeneaaGreatDoor

