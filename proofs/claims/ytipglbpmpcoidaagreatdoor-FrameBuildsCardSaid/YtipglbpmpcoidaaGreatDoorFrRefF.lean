/-
  Walks: the document's builder: Frame.
-/
import Derived.Test.YtipglbpmpcoidaaGreatDoorFrRefT
import Derived.Test.YtipglbpmpcoidaaGreatDoorFrFrame
import Derived.Test.YtipglbpmpcoidaaGreatDoorGfA
import Derived.Deep.RegionLaw
import Derived.Deep.AppendLies
import Derived.Outline
namespace Go.Proofs.YtipglbpmpcoidaaGreatDoor
open Go.RowKit
set_option linter.unusedVariables false
set_option linter.unusedSimpArgs false

theorem enters_rcells4 : ∀ args w, (callFunc 40 args).run Tryz.prog w = .ok (.enter 40 args) w := enters_of Tryz.func40 (by kernel_rfl) rfl
set_option maxRecDepth 100000 in
set_option maxHeartbeats 16000000 in
theorem rbframe_any {w : World} {D : Nat → Prop} {A : Option Addr} {c W : Nat} {L : List (List Cl)} (h : RfAt w D A c L) (h5 : L.length ≤ 500) (row col : Int) (sn : Bool) :
    Calls Tryz.prog 16 #[.agg #[.int .i64 W, .int .i64 L.length, .slice A L.length c, .int .i64 row, .int .i64 col, .bool sn]] w fun e w' => ∃ A' c', e = .returned (.agg #[.slice A' L.length c', .int .i64 row, .int .i64 col, .bool sn]) ∧ RfAt w' (fun b => D b ∨ w.heap.size ≤ b) A' c' L ∧ Below w.heap.size w w' := by
  obtain ⟨i0, hi0, hz0, hz1, hz2⟩ := info_parts row_info
  have HI0 := Lib.hid hi0
  have HZ0 := Lib.hid hz0
  have HZ1 := Lib.hid hz1
  have HZ2 := Lib.hid hz2
  have hrr : RfAt w (fun b => D b ∧ b < w.heap.size) A c L := h.mono (fun b hb hd => ⟨hd, hb⟩)
  have HRR := Lib.hid hrr
  obtain ⟨H, hH⟩ : ∃ H, H = L.length := ⟨_, rfl⟩
  rw [← hH]
  have HH := Lib.hid hH
  have h5' : H ≤ 500 := by omega
  clear hi0 hz0 hz1 hz2 h hrr hH h5
  go_enter Tryz.func16, Tryz.ntmps16
  go_wp2_with (fail)
  go_loopw [4] (fun v4 wr => ∃ (k : Nat) (A1 : Option Addr) (c1 : Nat) (us : List Value), v4 = .int .i64 k ∧ k ≤ H ∧ Blk wr (w.heap.size + 1 + 1) 52 [.slice A1 k c1, .int .i64 row, .int .i64 col, .bool sn] ∧ OR wr (w.heap.size + 3) 68 A1 k c1 us ∧
      RowsD wr (fun b => D b ∧ b < w.heap.size) us (L.take k) ∧ Blk wr w.heap.size 31 (rbC W H A c row col sn) ∧ Blk wr (w.heap.size + 1) 52 [.slice none 0 0, .int .i64 0, .int .i64 0, .bool false] ∧ Below w.heap.size w wr ∧ w.heap.size + 3 ≤ wr.heap.size) (fun v4 _ => H - (intOf v4).toNat)
  case atStart =>
    refine ⟨0, none, 0, [], rfl, by omega, ?_, OR.none_ _ _ _, .nil, ?_, ?_, ?_, by simp⟩
    · exact Blk.new2 w _ _ _ [.slice none 0 0, .int .i64 row, .int .i64 col, .bool sn]
    · exact ((Blk.new w 31 (rbC W H A c row col sn)).alloc _).alloc _
    · exact (Blk.new1 w _ _ [.slice none 0 0, .int .i64 0, .int .i64 0, .bool false]).alloc _
    · exact (((Below.refl _ w).alloc (Nat.le_refl _) _).alloc (by simp) _).alloc (by simp; omega) _
  case round =>
    obtain ⟨k, A1, c1, us, rfl, hk, hf, ho, hr, hx, hz, hb, hsz⟩ := hrel
    have q0 : wr.cell? ⟨w.heap.size, 0, none⟩ = some (.int .i64 W) := hx.cell 0
    have q1 : wr.cell? ⟨w.heap.size, 1, none⟩ = some (.int .i64 H) := hx.cell 1
    have q2 : wr.cell? ⟨w.heap.size, 2, none⟩ = some (.slice A H c) := hx.cell 2
    have e0 : wr.cell? ⟨w.heap.size + 1 + 1, 0, none⟩ = some (.slice A1 k c1) := hf.cell 0
    have FF := Lib.hid hf
    have OO := Lib.hid ho
    have RR := Lib.hid hr
    have XX := Lib.hid hx
    have ZZ := Lib.hid hz
    have BB := Lib.hid hb
    clear hf ho hr hx hz hb
    by_cases hlt : k < H
    · have hki : (k : Int) < H := by omega
      have hkl : k < L.length := by have := HH.out; omega
      have hl : L[k]? = some L[k] := List.getElem?_eq_getElem hkl
      have htk : L.take (k + 1) = L.take k ++ [L[k]] := List.take_succ_eq_append_getElem hkl
      generalize L[k] = l at hl htk
      have hcall : ∀ W', Below wr.heap.size wr W' → Calls Tryz.prog 40 #[.agg #[.int .i64 W, .int .i64 H, .slice A H c], .int .i64 k] W' fun e w'' => ∃ u, e = .returned u ∧ RowD w'' (fun b => D b ∧ b < w.heap.size) u l ∧ Below W'.heap.size W' w'' := fun W' hW' => by
        have h1 := HRR.out.below (BB.out.trans (hW'.mono BB.out.size))
        have := rcells_yes (W := W) h1 k l hl
        rw [← HH.out] at this
        exact this
      have HCALL := Lib.hid hcall
      have HTK := Lib.hid htk
      clear hcall hl htk hkl
      go_wp2_with (fail)
      go_region_law (first
        | (refine step_call rfl 40 _ _ rfl enters_rcells4 #[.agg #[.int .i64 W, .int .i64 H, .slice A H c], .int .i64 k] (by simp [Act.eval, Act.put]) (HCALL.out _ (Below.refl _ _).drew) ?_; rintro e w3 ⟨v3, rfl, hr3, hb3⟩; obtain ⟨A9, c9, rfl, hr3b⟩ := hr3; have hr3 : RowD w3 (fun b => D b ∧ b < w.heap.size) (.slice A9 l.length c9) l := ⟨A9, c9, rfl, hr3b⟩; refine ⟨_, rfl, ?_⟩; have HR3 := Lib.hid hr3; have hbb3 : Below wr.heap.size wr w3 := (Below.refl wr.heap.size wr).drew.trans hb3; have HB3 := Lib.hid hbb3; have HO3 := Lib.hid (OO.out.below hbb3 (fun g hg => (OO.out.blk_lt g hg).2)); have hf3 := FF.out.below hbb3 FF.out.lt; have f2 : w3.cell? ⟨w.heap.size + 1 + 1, 0, none⟩ = some (.slice A1 k c1) := hf3.cell 0; have f3 : (w3.alloc (.cells #[.slice A9 l.length c9] 68)).cell? ⟨w.heap.size + 1 + 1, 0, none⟩ = some (.slice A1 k c1) := (hf3.alloc _).cell 0; clear hr3 hr3b hb3 hbb3 hf3)
        | (refine step_append_lies _ rfl (.tmp 20) (.tmp 25) _ rfl (w.heap.size + 3) 68 i0 _ 1 24 Tryz.underlying50 HI0.out HZ0.out HZ1.out HZ2.out rfl (by omega) (.slice A1 k c1) k us (by simp [Act.eval, Act.put]) (HO3.out.1.alloc _) ⟨w3.heap.size, 0, none⟩ 1 1 [.slice A9 l.length c9] (by simp [Act.eval, Act.put]) rfl (World.news_of_block (cs := #[.slice A9 l.length c9]) (t := 68) (fr := (0, 0)) (heap_alloc_new w3 _)) (fun v hv => by simp at hv; subst hv; rfl) (by omega) (by simp only [maxLen]; omega) (by omega) (by have := HB3.out.size; simp; omega) (w3.heap.size + 1) (by simp) ?_; intro g cap w5 ho hg hat hgl;
           have hap := HoldF.appended (f := fun _ => False) (W := wr) (X := w3.alloc (.cells #[.slice A9 l.length c9] 68)) (fun _ h => h.elim) (HB3.out.alloc HB3.out.size _) FF.out OO.out (fun _ _ h => h.elim) (fun h => h) (hO := ⟨ho, fun e => by cases e⟩) (by rw [ownBlock_slice] at hg; exact hg) (fun q hq => by
             have hq' : g = q := by simpa [blk] using hq
             rw [ownBlock_slice] at hat
             rcases hat with h1 | h1
             · rw [← hq']; exact .inl h1
             · exact .inr (by rw [World.size_alloc]; omega)) 0;
           have HCZ : Hid (Chg (fun j => j = w.heap.size + 1 + 1 ∨ blk A1 = some j) w3 (w5.setCell ⟨w.heap.size + 1 + 1, 0, none⟩ (.slice (some ⟨g, 0, none⟩) (k + 1) cap))) := Lib.hid ((((Chg.refl (fun j => j = w.heap.size + 1 + 1 ∨ blk A1 = some j) w3).alloc (.cells #[.slice A9 l.length c9] 68)).grown (by rw [ownBlock_slice] at hg; exact hg) (fun q hq => .inl (.inr hq))).setCell (p := ⟨w.heap.size + 1 + 1, 0, none⟩) (.inl (.inl rfl)) _); have HAP := Lib.hid hap; have z2 : w5.cell? ⟨w.heap.size + 1 + 1, 0, none⟩ = some (.slice A1 k c1) := hap.2.2.1.cell 0; have zf2 := hap.2.2.1.frozen 0; clear ho hg hat hap))
      all_goals
        obtain ⟨⟨A', n', c', hf', ho', _⟩, _, _, hch⟩ := HAP.out
        have hln := OO.out.len
        obtain rfl : n' = k + 1 := by rw [ho'.len, List.length_append, List.length_singleton, ← hln]
        have hS : ∀ j, j < w.heap.size → ¬ (j = w.heap.size + 1 + 1 ∨ blk A1 = some j) := fun j hj e => by
          rcases e with e | e
          · omega
          · have := (OO.out.blk_lt _ e).1; omega
        have hrn : RowsD (w5.setCell ⟨w.heap.size + 1 + 1, 0, none⟩ (.slice (some ⟨g, 0, none⟩) (k + 1) cap)) (fun b => D b ∧ b < w.heap.size) (us ++ [.slice A9 l.length c9]) (L.take (k + 1)) := by
          rw [HTK.out]
          exact ((RR.out.below HB3.out).snoc HR3.out).chg HCZ.out (fun b _ hb => hS b hb.2)
        have hxn := XX.out.chg hch (fun e => by
          rcases e with e | e
          · omega
          · have := (OO.out.blk_lt _ e).1; omega)
        have hzn := ZZ.out.chg hch (fun e => by
          rcases e with e | e
          · omega
          · have := (OO.out.blk_lt _ e).1; omega)
        have hbn : Below w.heap.size w (w5.setCell ⟨w.heap.size + 1 + 1, 0, none⟩ (.slice (some ⟨g, 0, none⟩) (k + 1) cap)) := BB.out.trans (hch.below BB.out.size (fun j e => by
          rcases e with e | e
          · omega
          · have := (OO.out.blk_lt _ e).1; omega))
        have hsn : w.heap.size + 3 ≤ (w5.setCell ⟨w.heap.size + 1 + 1, 0, none⟩ (.slice (some ⟨g, 0, none⟩) (k + 1) cap)).heap.size := by have := hch.size; omega
        have F2 := Lib.hid hf'
        have O2 := Lib.hid ho'
        have R2 := Lib.hid hrn
        have X2 := Lib.hid hxn
        have Z2 := Lib.hid hzn
        have B2 := Lib.hid hbn
        have S2 := Lib.hid hsn
        clear hf' ho' hch hln hS hrn hxn hzn hbn hsn q0 q1 q2 e0 f2 z2 zf2
        go_wp2
        go_roundw
        case rel => exact ⟨k + 1, A', c', _, by go_num, by omega, F2.out, O2.out, R2.out, X2.out, Z2.out, B2.out, S2.out⟩
        case measure => simp [intOf]; omega
    · have hki : ¬ (k : Int) < H := by omega
      obtain rfl : k = H := by omega
      go_wp2_with (first
        | ((with_reducible refine at_dst 28 ?_); refine wpList_load_mid rfl _ _ rfl (w.heap.size + 1 + 1) 0 rfl [.slice A1 k c1, .int .i64 row, .int .i64 col, .bool sn] _ (range_all FF.out) Tryz.underlying52 rfl (by kernel_rfl) ?_)
        | ((with_reducible refine at_store 2 ?_); refine wpList_store_blk rfl _ _ _ rfl rfl (w.heap.size + 1) 0 _ [.slice none 0 0, .int .i64 0, .int .i64 0, .bool false] [.slice A1 k c1, .int .i64 row, .int .i64 col, .bool sn] rfl rfl ZZ.out (by simp) (by kernel_rfl) (by intro v hv; simp at hv; rcases hv with rfl | rfl | rfl | rfl <;> rfl) ?_; intro wz hn5 hg5))
      have hn6 : Blk wz (w.heap.size + 1) 52 [.slice A1 k c1, .int .i64 row, .int .i64 col, .bool sn] := hn5
      have hcz := chg_of_grown hg5
      refine bodyPost_ret (results_c rfl rfl (range_all hn6) Tryz.underlying52 rfl (by kernel_rfl)) rfl ⟨A1, c1, rfl, ?_, ?_⟩
      · have hrl := RR.out
        rw [List.take_of_length_le (by have := HH.out; omega)] at hrl
        have hlen : us.length = L.length := hrl.1
        have hk2 := OO.out.len
        have hcap := own_cap OO.out.1
        have hsl : SlD wr (fun b => w.heap.size + 3 ≤ b) A1 us := SlD.own OO.out.1
        refine ⟨OO.out.2, by omega, us, ?_, ?_⟩
        · exact ((hsl.mono (D' := fun b => w.heap.size + 3 ≤ b) (fun b _ hb => hb)).chg hcz (fun b _ hb e => by have e' : b = w.heap.size + 1 := e; omega)).mono (fun b _ hb => .inr (by omega))
        · exact (hrl.chg hcz (fun b _ hb e => by have e' : b = w.heap.size + 1 := e; have := hb.2; omega)).mono (fun b _ hb => .inl hb.1)
      · exact BB.out.grown hg5 BB.out.size (fun j hj => by injection hj with hj; omega)
end Go.Proofs.YtipglbpmpcoidaaGreatDoor
