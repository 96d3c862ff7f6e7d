/-
  Walks: slices.Repeat at a cell, blankRows, New.
-/
import Derived.Test.YtijbimofigkdkaaDoorGrMem
import Derived.Test.YtijbimofigkdkaaDoorShelf4
namespace Go.Proofs.YtijbimofigkdkaaDoor
open Go.RowKit
set_option linter.unusedVariables false
set_option linter.unusedSimpArgs false

theorem made_cells (n : Nat) : (madeCells czero.cells.toArray (n * 7)).toList = rc (List.replicate n czero) := by
  apply List.ext_getElem?
  intro i
  by_cases hi : i < n * 7
  · have hd : i = i / 7 * 7 + i % 7 := by omega
    have hq : (List.replicate n czero)[i / 7]? = some czero := by rw [List.getElem?_replicate, if_pos (by omega)]
    have hm : i % 7 < 7 := Nat.mod_lt _ (by omega)
    have hv : czero.cells[i % 7]? = some (czero.cells[i % 7]'(by rw [Cl.len]; exact hm)) := List.getElem?_eq_getElem _
    have h2 := rc_get hq hv
    rw [← hd] at h2
    rw [h2]
    unfold madeCells
    simp [hi]
    have hv2 : czero.cells[i % czero.cells.length]? = some (czero.cells[i % 7]'(by rw [Cl.len]; exact hm)) := hv
    rw [hv2]
    rfl
  · rw [List.getElem?_eq_none (l := rc _) (by rw [rc_length, List.length_replicate]; omega), List.getElem?_eq_none (by simp [madeCells]; omega)]

theorem mul1 (n : Nat) (hn : n ≤ 500) (w : World) : Calls Tryd.prog 62 #[.int .u64 1, .int .u64 n] w fun e w' => e = .returned (.tuple #[.int .u64 0, .int .u64 n]) ∧ w = w' :=
  (sh_bits_Mul 1 n (by omega) (by omega) w).mono fun e w' ⟨he, hw⟩ => by
    refine ⟨?_, hw.symm⟩
    rw [he, Nat.one_mul, Nat.div_eq_of_lt (by omega), Nat.mod_eq_of_lt (by omega)]
    rfl

/-- so many cells filled, the others not yet -/
def fillM (c : Cl) (n k : Nat) : List Cl := List.replicate k c ++ List.replicate (n - k) czero
theorem fillM_length (c : Cl) (n k : Nat) (h : k ≤ n) : (fillM c n k).length = n := by simp [fillM]; omega
theorem fillM_zero (c : Cl) (n : Nat) : fillM c n 0 = List.replicate n czero := by simp [fillM]
theorem fillM_all (c : Cl) (n : Nat) : fillM c n n = List.replicate n c := by simp [fillM]
theorem fillM_splice (c : Cl) (n k d : Nat) (h : k + d ≤ n) : splice (fillM c n k) k (List.replicate d c) = fillM c n (k + d) := by
  unfold splice fillM
  rw [List.take_left' (by simp), List.length_replicate, List.drop_append, List.drop_eq_nil_of_le (by simp), List.nil_append, List.length_replicate, List.drop_replicate, ← List.append_assoc, List.replicate_append_replicate]
  congr 2
  omega

set_option maxRecDepth 100000 in
set_option maxHeartbeats 4000000 in
theorem repeat_any (c : Cl) (n b0 : Nat) (h1 : 1 ≤ n) (h5 : n ≤ 500) (w : World) (hx : Blk w b0 51 c.cells) :
    Calls Tryd.prog 50 #[.slice (some ⟨b0, 0, none⟩) 1 1, .int .i64 n] w fun e w' => e = .returned (.slice (some ⟨w.heap.size, 0, none⟩) n n) ∧
      Blk w' w.heap.size 51 (rc (List.replicate n c)) ∧ Below w.heap.size w w' := by
  obtain ⟨i0, hi0, hz0, hz1, hz2⟩ := info_parts cl_info
  have hni : 1 ≤ (n : Int) := by omega
  have hni5 : (n : Int) ≤ 500 := by omega
  have hnn : ¬ (n : Int) < 0 := by omega
  have hdec : decide (9223372036854775807 < (n : Int)) = false := by simp; omega
  have HI0 := Lib.hid hi0
  have HZ0 := Lib.hid hz0
  have HZ1 := Lib.hid hz1
  have hby : i0.bytes * n ≤ 281474976710656 := by rw [hz2]; omega
  have HBY := Lib.hid hby
  have HX := Lib.hid hx
  have hb0 := hx.lt
  have HM := Lib.hid (made_cells n)
  have HSR : Hid (∀ j v, c.cells[j]? = some v → ((w.alloc (.cells (madeCells czero.cells.toArray (n * 7)) 51))).cell? ((⟨b0, 0, none⟩ : Addr).add j) = some v) := fun j v hv => by
    rw [Addr.add_mid, Nat.zero_add, World.cell?_alloc_lt _ _ _ (by exact hb0)]
    exact (hx.cell j).trans hv
  clear hi0 hz0 hz1 hz2 hby hx
  go_enter Tryd.func50, Tryd.ntmps50
  go_wp2_with (first
    | (go_at_call 62; refine (mul1 n h5 w).mono ?_; rintro e w' ⟨rfl, rfl⟩)
    | ((with_reducible refine at_dst 30 ?_); refine wpList_make_blk rfl _ _ _ rfl 51 i0 _ 7 Tryd.underlying46 HI0.out HZ0.out HZ1.out .i64 .i64 n n n rfl rfl rfl rfl HBY.out (by simp only [maxLen]; omega) ?_; have hB1 : Blk (w.alloc (.cells (madeCells czero.cells.toArray (n * 7)) 51)) w.heap.size 51 (rc (fillM c n 0)) := (by rw [fillM_zero, ← HM.out]; exact Blk.new _ _ _))
    | ((with_reducible refine at_dst 33 ?_); refine wpList_copy_k rfl _ _ _ _ rfl 51 7 Tryd.underlying46 cl_size _ _ n n 1 1 rfl rfl w.heap.size 0 _ _ hB1 c.cells 1 (by show 1 = min 1 n; omega) rfl (fun _ => ⟨rfl, ⟨b0, 0, none⟩, rfl, HSR.out⟩) (by rw [rc_length, fillM_length _ _ _ (by omega), Cl.len]; omega) c.one ?_; intro w2 hn2 hg2))
  have hn2' : Blk w2 w.heap.size 51 (rc (fillM c n 1)) := by
    have e := rc_splice_list (fillM c n 0) (List.replicate 1 c) 0
    rw [fillM_splice c n 0 1 (by omega)] at e
    simp only [List.replicate_one, rc_cons, rc_nil, List.append_nil] at e
    rw [← e]
    exact hn2
  have HB2 := Lib.hid hn2'
  have hbel : Below w.heap.size w w2 := ((Below.refl _ _).alloc (Nat.le_refl _) _).grown hg2 (by simp) (fun k hk => by injection hk with hk; omega)
  have HBE := Lib.hid hbel
  clear hn2 hn2' hg2 hB1 hbel
  go_wp2
  go_loopw [8] (fun v8 wr => ∃ k : Nat, v8 = .int .i64 k ∧ 1 ≤ k ∧ k ≤ n ∧ Blk wr w.heap.size 51 (rc (fillM c n k)) ∧ Below w.heap.size w wr) (fun v8 _ => n - (intOf v8).toNat)
  case atStart => exact ⟨1, rfl, by omega, by omega, HB2.out, HBE.out⟩
  case round =>
    obtain ⟨k, rfl, hk1, hk2, hbk, hck⟩ := hrel
    have HBK := Lib.hid hbk
    have HCK := Lib.hid hck
    clear hbk hck
    by_cases hlt : k < n
    · have hki : (k : Int) < n := by omega
      have hk0 : 0 ≤ (k : Int) := by omega
      have hkn : ¬ n = k := by omega
      obtain ⟨d, hd⟩ : ∃ d, d = min k (n - k) := ⟨_, rfl⟩
      have hdk : d ≤ k ∧ k + d ≤ n ∧ 1 ≤ d := by omega
      have hdi : (k : Int) + (d : Int) ≤ 500 := by omega
      have hdi0 : 0 ≤ (d : Int) := by omega
      have hsrc : ∀ j v, (rc (List.replicate d c))[j]? = some v → wr.cell? ((⟨w.heap.size, 0, none⟩ : Addr).add j) = some v := fun j v hv => by
        rw [Addr.add_mid, Nat.zero_add, HBK.out.cell]
        have : rc (fillM c n k) = rc (List.replicate d c) ++ rc (List.replicate (k - d) c ++ List.replicate (n - k) czero) := by
          rw [← rc_append, ← List.append_assoc, List.replicate_append_replicate, show d + (k - d) = k by omega]
          rfl
        rw [this, List.getElem?_append_left (List.getElem?_eq_some_iff.1 hv).1]
        exact hv
      have HSR2 := Lib.hid hsrc
      have HD := Lib.hid hd
      clear hsrc hd
      have hke : (k : Int) ≤ n := by omega
      have hrl := rc_length (fillM c n k)
      rw [fillM_length c n k hk2] at hrl
      have HRL := Lib.hid hrl
      clear hrl
      go_wp2_with (fail)
      go_region_law (refine step_copy_k rfl (.tmp 41) (.tmp 44) _ _ rfl 51 7 Tryd.underlying46 cl_size (some ⟨w.heap.size, k * 7, none⟩) (some ⟨w.heap.size, 0, none⟩) (n - k) (n - k) k n (by simp [Act.eval, Act.put]) (by simp [Act.eval, Act.put]) w.heap.size (k * 7) _ (rc (fillM c n k)) HBK.out (rc (List.replicate d c)) d (by have := HD.out; show d = min k (n - k); exact this) (by rw [rc_length, List.length_replicate]) (fun _ => ⟨rfl, _, rfl, HSR2.out⟩) (by have := HRL.out; rw [rc_length, List.length_replicate]; omega) (rc_one _) ?_; intro w4 hn4 hg4)
      rw [rc_splice_list, fillM_splice c n k d hdk.2.1] at hn4
      have hbel : Below w.heap.size w w4 := HCK.out.drew.grown hg4 HCK.out.size (fun k hk => by injection hk with hk; omega)
      have HN4 := Lib.hid hn4
      have HB4 := Lib.hid hbel
      clear hn4 hg4 hbel
      simp only [Act.put]
      go_simp
      rw [show IntKind.i64.wrap ((k : Int) + (d : Int)) = (k : Int) + (d : Int) by rw [IntKind.wrap_i64]; omega]
      all_goals
        go_roundw
        case rel =>
          (repeat apply Exists.intro)
          exact ⟨⟨k + d, by go_num, by omega, by omega, HN4.out, HB4.out⟩, rfl⟩
        case measure => simp [intOf]; omega
    · have hki : ¬ (k : Int) < n := by omega
      obtain rfl : k = n := by omega
      go_wp2
      go_ret
      exact ⟨rfl, by rw [← fillM_all]; exact HBK.out, HCK.out⟩

theorem made_one (z : Value) (n : Nat) : (madeCells #[z] (n * 1)).toList = List.replicate n z := by
  apply List.ext_getElem?
  intro i
  by_cases hi : i < n
  · simp [madeCells, hi, List.getElem?_replicate, Nat.mod_one]
  · simp [madeCells, hi, List.getElem?_replicate]

/-- Rows of blanks, newly made. -/
structure RowsNew (w w' : World) (W H : Nat) (bs : List Nat) : Prop where
  len : bs.length = H
  nd : bs.Nodup
  hi : ∀ b ∈ bs, w.heap.size < b
  row : ∀ b ∈ bs, Blk w' b 51 (rc (List.replicate W bl))
  rows : Blk w' w.heap.size 46 (bs.map (rowV W))
  bel : Below w.heap.size w w'

/-- So many of them. -/
structure RowsTo (w wr : World) (W H k : Nat) (bs : List Nat) : Prop where
  len : bs.length = k
  nd : bs.Nodup
  row : ∀ b ∈ bs, w.heap.size < b ∧ Blk wr b 51 (rc (List.replicate W bl))
  rows : Blk wr w.heap.size 46 (bs.map (rowV W) ++ List.replicate (H - k) (.slice none 0 0))
  bel : Below w.heap.size w wr

set_option maxRecDepth 100000 in
set_option maxHeartbeats 4000000 in
theorem blankRows_any (W H : Nat) (w1 : 1 ≤ W) (w5 : W ≤ 500) (h1 : 1 ≤ H) (h5 : H ≤ 500) (w : World) (hT : BlankT w) :
    Calls Tryd.prog 29 #[.int .i64 W, .int .i64 H] w fun e w' => e = .returned (.slice (some ⟨w.heap.size, 0, none⟩) H H) ∧ ∃ bs, RowsNew w w' W H bs := by
  obtain ⟨i0, hi0, hz0, hz1, hz2⟩ := info_parts row_info
  have HI0 := Lib.hid hi0
  have HZ0 := Lib.hid hz0
  have HZ1 := Lib.hid hz1
  have hby : i0.bytes * H ≤ 281474976710656 := by rw [hz2]; omega
  have HBY := Lib.hid hby
  have HT := Lib.hid hT
  have HM := Lib.hid (made_one (.slice none 0 0) H)
  clear hi0 hz0 hz1 hz2 hby hT
  go_enter Tryd.func29, Tryd.ntmps29
  go_wp2_with ((with_reducible refine at_dst 8 ?_); refine wpList_make_blk rfl _ _ _ rfl 46 i0 _ 1 Tryd.underlying60 HI0.out HZ0.out HZ1.out .i64 .i64 H H H rfl rfl rfl rfl HBY.out (by simp only [maxLen]; omega) ?_; have hB1 : Blk (w.alloc (.cells (madeCells #[.slice none 0 0] (H * 1)) 46)) w.heap.size 46 (List.replicate H (.slice none 0 0)) := (by rw [← HM.out]; exact Blk.new _ _ _); have HB1 := Lib.hid hB1; clear hB1)
  go_loopw [11] (fun v11 wr => ∃ (k : Nat) (bs : List Nat), v11 = .int .i64 k ∧ k ≤ H ∧ RowsTo w wr W H k bs) (fun v11 _ => H - (intOf v11).toNat)
  case atStart => exact ⟨0, [], rfl, by omega, ⟨rfl, List.nodup_nil, fun b hb => by simp at hb, by simpa using HB1.out, (Below.refl _ _).alloc (Nat.le_refl _) _⟩⟩
  case round =>
    obtain ⟨k, bs, rfl, hk, hR⟩ := hrel
    have HBL := Lib.hid hR.len
    have HND := Lib.hid hR.nd
    have HROW := Lib.hid hR.row
    have HROWS := Lib.hid hR.rows
    have HBE := Lib.hid hR.bel
    clear hR
    by_cases hlt : k < H
    · have hki : (k : Int) < H := by omega
      have hkk : bs.length = k := HBL.out
      have hlen : (bs.map (rowV W) ++ List.replicate (H - k) (Value.slice none 0 0)).length = H := by simp [hkk]; omega
      have hset : ∀ v, (bs.map (rowV W) ++ List.replicate (H - k) (Value.slice none 0 0)).set k v = bs.map (rowV W) ++ [v] ++ List.replicate (H - (k + 1)) (.slice none 0 0) := fun v => by
        rw [List.set_append_right _ _ (by simp [hkk]), List.length_map, hkk, Nat.sub_self, show H - k = (H - (k + 1)) + 1 by omega, List.replicate_succ, List.set_cons_zero]
        simp
      have HLEN := Lib.hid hlen
      have HSET := Lib.hid hset
      have HTr := Lib.hid (HT.out.below HBE.out HT.out.2)
      clear hkk hlen hset
      go_wp2_with (first
        | ((with_reducible refine at_dst 16 ?_); refine wpList_load_mid rfl _ _ rfl 0 0 rfl [.string ⟨#[32]⟩, .int .i64 1, .bool false, .bool false, .bool false, .int .i64 0, .int .i64 0] _ HTr.out.1 Tryd.underlying51 rfl cl_size ?_)
        | (go_at_call 50; refine (repeat_any bl W wr.heap.size w1 w5 _ (Blk.new wr 51 bl.cells)).mono ?_; rintro e w3 ⟨rfl, hb3, hbel3⟩; have HR3 := Lib.hid ((HROWS.out.alloc _).below hbel3 (HROWS.out.alloc _).lt); have HB3 := Lib.hid hb3; have HBE3 := Lib.hid hbel3; clear hb3 hbel3)
        | ((with_reducible refine at_store 20 ?_); refine wpList_store_cell rfl _ _ _ rfl rfl w.heap.size k _ (bs.map (rowV W) ++ List.replicate (H - k) (.slice none 0 0)) (rowV W (wr.heap.size + 1)) rfl rfl HR3.out (by rw [HLEN.out]; exact hlt) sl_size rfl ?_; intro w4 hn4 hg4))
      rw [HSET.out] at hn4
      have hw4 : RowsTo w w4 W H (k + 1) (bs ++ [wr.heap.size + 1]) := by
        have hsz := HBE.out.size
        have hnw : w.heap.size < wr.heap.size := HROWS.out.lt
        have hb34 : Chg (one w.heap.size) wr w4 := (((Chg.refl _ _).alloc _).trans (Chg.of_below (S := one w.heap.size) HBE3.out) (fun _ h => .inl h)).trans (chg_of_grown hg4) (fun _ h => .inl h)
        have hB3 : Blk w3 (wr.heap.size + 1) 51 (rc (List.replicate W bl)) := by have := HB3.out; simpa using this
        refine ⟨by rw [List.length_append, HBL.out]; rfl, ?_, ?_, ?_, ?_⟩
        · rw [List.nodup_append]
          refine ⟨HND.out, by simp, ?_⟩
          rintro a ha b hb rfl
          simp at hb
          have := (HROW.out a ha).2.lt
          omega
        · intro b hb
          rcases List.mem_append.1 hb with hb | hb
          · exact ⟨(HROW.out b hb).1, (HROW.out b hb).2.chg hb34 (fun e => by have := (HROW.out b hb).1; have e' : b = w.heap.size := e; omega)⟩
          · simp at hb
            subst hb
            exact ⟨by omega, hB3.chg (chg_of_grown hg4) (fun e => by have e' : wr.heap.size + 1 = w.heap.size := e; omega)⟩
        · rw [List.map_append]
          exact hn4
        · exact HBE.out.trans (hb34.below HBE.out.size (fun j e => by have e' : j = w.heap.size := e; omega))
      have HW4 := Lib.hid hw4
      clear hn4 hw4 hg4
      go_wp2
      go_roundw
      case rel => exact ⟨k + 1, _, by go_num, by omega, HW4.out⟩
      case measure => simp [intOf]; omega
    · have hki : ¬ (k : Int) < H := by omega
      obtain rfl : k = H := by omega
      have HROWS' : Hid (Blk wr w.heap.size 46 (bs.map (rowV W))) := by have := HROWS.out; show Blk _ _ _ _; simpa using this
      go_wp2
      go_ret
      exact ⟨rfl, bs, HBL.out, HND.out, fun b hb => (HROW.out b hb).1, fun b hb => (HROW.out b hb).2, HROWS'.out, HBE.out⟩

def sideB (n : Int) : Bool := decide (1 ≤ n ∧ n ≤ 500)
set_option maxHeartbeats 400000 in
theorem side_any (n : Int) (w : World) : Calls Tryd.prog 28 #[.int .i64 n] w fun e w' => e = .returned (.bool (sideB n)) ∧ w = w' := by
  go_enter Tryd.func28, Tryd.ntmps28
  go_wp2
  all_goals
    go_ret
    exact ⟨ret_bool (by unfold sideB; rw [Bool.eq_iff_iff]; simp; try omega), rfl⟩

set_option maxRecDepth 100000 in
set_option maxHeartbeats 1000000 in
theorem new_no (W H : Int) (w : World) (hbad : sideB W = false ∨ sideB H = false) :
    Calls Tryd.prog 7 #[.int .i64 W, .int .i64 H] w fun e w' => e = .returned (.tuple #[.pointer none, .int .i64 40]) ∧ w = w' := by
  by_cases h : sideB W = false
  · have HH := Lib.hid h
    clear h hbad
    go_enter Tryd.func7, Tryd.ntmps7
    go_wp2_with (go_at_call 28; refine (side_any _ _).mono ?_; rintro e w' ⟨rfl, rfl⟩; rw [HH.out])
    go_ret2
    exact ⟨rfl, rfl⟩
  · have HW : Hid (sideB W = true) := by show sideB W = true; simpa using h
    have HH := Lib.hid (hbad.resolve_left h)
    clear h hbad
    go_enter Tryd.func7, Tryd.ntmps7
    go_wp2_with (go_at_call 28; refine (side_any _ _).mono ?_; rintro e w' ⟨rfl, rfl⟩; first | rw [HW.out] | rw [HH.out])
    go_ret2
    exact ⟨rfl, rfl⟩

/-- A grid of blanks. -/
def blankG (W H : Nat) : List (List Cl) := List.replicate H (List.replicate W bl)
set_option maxRecDepth 100000 in
set_option maxHeartbeats 1000000 in
theorem new_ok (W H : Nat) (w1 : 1 ≤ W) (w5 : W ≤ 500) (h1 : 1 ≤ H) (h5 : H ≤ 500) (w : World) (hT : BlankT w) :
    Calls Tryd.prog 7 #[.int .i64 W, .int .i64 H] w fun e w' => ∃ g rb bs, e = .returned (.tuple #[.pointer (some ⟨g, 0, none⟩), .int .i64 0]) ∧ GrAt w' w.heap.size g rb bs W (blankG W H) ∧ Below w.heap.size w w' := by
  have HW : Hid (sideB W = true) := by show sideB W = true; simp [sideB]; omega
  have HH : Hid (sideB H = true) := by show sideB H = true; simp [sideB]; omega
  have HT := Lib.hid hT
  clear hT
  go_enter Tryd.func7, Tryd.ntmps7
  go_wp2_with (first
    | (go_at_call 28; refine (side_any _ _).mono ?_; rintro e w' ⟨rfl, rfl⟩; first | rw [HW.out] | rw [HH.out])
    | (go_at_call 29; refine (blankRows_any W H w1 w5 h1 h5 w HT.out).mono ?_; rintro e w2 ⟨rfl, bs, hR⟩; have HR := Lib.hid hR; have hN : Blk (w2.alloc (.cells #[.pointer none, .slice (some ⟨w.heap.size, 0, none⟩) H H] 62)) w2.heap.size 62 [.pointer none, .slice (some ⟨w.heap.size, 0, none⟩) H H] := Blk.new _ _ _; have HN := Lib.hid hN; clear hR hN)
    | ((with_reducible refine at_store 23 ?_); refine wpList_store_cell rfl _ _ _ rfl rfl w2.heap.size 0 _ [.pointer none, .slice (some ⟨w.heap.size, 0, none⟩) H H] (.pointer (some ⟨w2.heap.size, 0, none⟩)) rfl rfl HN.out (by simp) (by kernel_rfl) rfl ?_; intro w4 hn4 hg4))
  go_ret2
  have hsz := HR.out.bel.size
  have hrl := HR.out.rows.lt
  have hc : Chg (one w2.heap.size) w2 w4 := ((Chg.refl _ _).alloc _).trans (chg_of_grown hg4) (fun _ h => .inl h)
  have hbl : (blankG W H).length = H := by simp [blankG]
  refine ⟨w2.heap.size, w.heap.size, bs, rfl, ⟨?_, HR.out.rows.chg hc (fun e => by have e' : w.heap.size = w2.heap.size := e; omega), by rw [hbl]; exact HR.out.len, HR.out.nd, ?_, ?_, w1, w5, by rw [hbl]; exact h1, by rw [hbl]; exact h5⟩, ?_⟩
  · rw [hbl]
    exact hn4
  · intro i b hb
    have hm := List.mem_of_getElem? hb
    have hi : i < H := by have := (List.getElem?_eq_some_iff.1 hb).1; have := HR.out.len; omega
    refine ⟨List.replicate W bl, by simp [blankG, List.getElem?_replicate, hi], by simp, Wf.blanks W, (HR.out.row b hm).chg hc (fun e => by have := (HR.out.row b hm).lt; have e' : b = w2.heap.size := e; omega)⟩
  · rintro k (rfl | rfl | hk)
    · omega
    · omega
    · have := HR.out.hi k hk; omega
  · exact HR.out.bel.trans (hc.below hsz (fun j e => by have e' : j = w2.heap.size := e; omega))
end Go.Proofs.YtijbimofigkdkaaDoor
