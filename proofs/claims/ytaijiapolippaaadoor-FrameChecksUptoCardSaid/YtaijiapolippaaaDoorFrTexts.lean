/-
  Walks: the rows' texts, one by one: Texts, slices.All over strings and its iterator.
-/
import Derived.Test.YtaijiapolippaaaDoorFrTextS
import Derived.Test.YtaijiapolippaaaDoorGfF
import Derived.Test.YtaijiapolippaaaDoorGfI
import Derived.Test.YtaijiapolippaaaDoorGfG
import Derived.Test.YtaijiapolippaaaDoorGfA
import Derived.RangeFuncNested
import Derived.RangeFuncBound
import Derived.RangeFuncCalls
import Derived.RangeFuncLeaves
import Derived.Shelf.Abstract
import Derived.Shelf.RegionOpen
import Derived.OwnWalkIn
import Derived.TacticsInMore
import Derived.LoopNIn
import Derived.LoopIn
import Derived.IntWalk
import Derived.Stop.RegionWithIn
import Derived.Outline
namespace Go.Proofs.YtaijiapolippaaaDoor
open Go.RowKit Go.Shelf
attribute [local go_sem] Oper.semAt_some
set_option linter.unusedVariables false
set_option linter.unusedSimpArgs false

/-- strings as cells -/
def sv1 (t : List UInt8) : Value := .string ⟨t.toArray⟩
theorem strs_get {T : List (List UInt8)} {k : Nat} {t : List UInt8} (h : T[k]? = some t) : (sv T)[k]? = some (sv1 t) := by simp [sv, sv1, h]
/-- the texts with their numbers -/
def lnsS (T : List (List UInt8)) : List (Nat × List UInt8) := T.zipIdx.map fun x => (x.2, x.1)
theorem lnsS_length (T : List (List UInt8)) : (lnsS T).length = T.length := by simp [lnsS]
theorem lnsS_get {T : List (List UInt8)} {k : Nat} (h : k < T.length) : (lnsS T)[k]? = some (k, T[k]) := by
  simp [lnsS, List.getElem?_zipIdx, List.getElem?_eq_getElem h]
def encS (x : Nat × List UInt8) : Array Value := #[.int .i64 x.1, .string ⟨x.2.toArray⟩]

set_option maxHeartbeats 400000 in
theorem sall_any (A : Option Addr) (n c : Nat) (w : World) : Calls Tryd.prog 98 #[.slice A n c] w fun e w' =>
    e = .returned (.func (.func 133) #[] #[.pointer (some ⟨w.heap.size, 0, none⟩)]) ∧ w' = w.alloc (.cells #[.slice A n c] 68) := by
  go_enter Tryd.func98, Tryd.ntmps98
  go_wp2
  go_ret
  exact ⟨rfl, rfl⟩

set_option maxRecDepth 100000 in
set_option maxHeartbeats 4000000 in
theorem sall_stops (B b : Nat) (T : List (List UInt8)) (h5 : T.length ≤ 100000) (f0 : Nat → Prop) (w : World) (hB : w.cell? ⟨B, 0, none⟩ = some (.slice (some ⟨b, 0, none⟩) T.length T.length))
    (hr : ∀ (k : Nat) t, T[k]? = some t → w.cell? ⟨b, k, none⟩ = some (sv1 t))
    (f1 : f0 B) (f2 : f0 b) :
    SeqP Fence.wide 8 Tryd.prog 133 #[.pointer (some ⟨B, 0, none⟩)] encS f0 (fun x => T[x.1]? = some x.2) (fun ys => ys = lnsS T) (fun pre => pre <+: lnsS T) T.length w := by
  intro l J Jx W hsz hf0 hJ hJx hY h0
  have hfacts : ∀ wr : World, (∀ j, f0 j → wr.heap[j]? = W.heap[j]?) → wr.cell? ⟨B, 0, none⟩ = some (.slice (some ⟨b, 0, none⟩) T.length T.length) ∧ ∀ (k : Nat) t, T[k]? = some t → wr.cell? ⟨b, k, none⟩ = some (sv1 t) := fun wr h => by
    have e : ∀ b o v, f0 b → w.cell? ⟨b, o, none⟩ = some v → wr.cell? ⟨b, o, none⟩ = some v := fun b o v hb hv =>
      (World.cell?_of_block (w := w) (a := ⟨b, o, none⟩) ((h b hb).trans (hf0 b hb))).trans hv
    exact ⟨e _ _ _ f1 hB, fun k t ht => e _ _ _ f2 (hr k t ht)⟩
  have HF := Lib.hid hfacts
  have HY := Lib.hid hY
  have H0 := Lib.hid h0
  have HJ := Lib.hid hJ
  clear hfacts hY h0 hJ hJx hf0 hB hr f1 f2
  refine callsIn_of_wp Tryd.func133 rfl trivial ?_ rfl
  simp only [Tryd.ntmps133, List.size_toArray, List.length_cons, List.length_nil, Nat.reduceAdd, Nat.reduceSub, Array.replicate_succ, Array.replicate_zero, List.push_toArray, List.append_toArray, List.nil_append, List.cons_append]
  obtain ⟨c1, c2⟩ := HF.out W (fun _ _ => rfl)
  clear c2
  gi_wp2_with (fail)
  clear c1
  gi_loopw [7] (fun v7 wr => ∃ k : Nat, v7 = .int .i64 k ∧ k ≤ T.length ∧ J ((lnsS T).take k) f0 wr ∧ (∀ j, f0 j → wr.heap[j]? = W.heap[j]?)) (fun v7 _ => T.length - (intOf v7).toNat)
  case atStart => exact ⟨0, rfl, by omega, H0.out, fun _ _ => rfl⟩
  case round =>
    obtain ⟨k, rfl, hk, hj, hf⟩ := hrel
    have HJp := Lib.hid hj
    have HFF := Lib.hid hf
    clear hj hf
    by_cases hlt : k < T.length
    · have hki : (k : Int) < T.length := by omega
      have hb : T[k]? = some T[k] := List.getElem?_eq_getElem hlt
      have hx := lnsS_get hlt
      obtain ⟨c1, c2⟩ := HF.out _ HFF.out
      have hrow := c2 k _ hb
      have htk : (lnsS T).take (k + 1) = (lnsS T).take k ++ [(k, T[k])] := by
        rw [List.take_add_one, hx]; rfl
      have hlk : ((lnsS T).take k).length < T.length := by rw [List.length_take, lnsS_length]; omega
      have hyy := HY.out _ (k, T[k]) f0 _ HJp.out hlk hb
      generalize T[k] = t at hb hx hrow htk hyy
      have HTK := Lib.hid htk
      have HPX : Hid ((lnsS T).take k ++ [(k, t)] <+: lnsS T) := by show _ <+: _; rw [← htk]; exact List.take_prefix _ _
      obtain ⟨fn, tmps, assign, body, hy, hR⟩ := hyy
      simp only [encS] at hy
      unfold sv1 at hrow
      clear c2 hx htk hlk hb
      gi_wp2
      refine hR.mono ?_
      rintro e W3 (⟨rfl, hJ3, hk3⟩ | ⟨rfl, hJ3, hk3⟩)
      · have hJ4 : J ((lnsS T).take (k + 1)) f0 W3 := by rw [HTK.out]; exact hJ3
        have hf4 : ∀ j, f0 j → W3.heap[j]? = W.heap[j]? := fun j hj => (hk3.mine j hj).trans (HFF.out j hj)
        gi_wp2
        exact ⟨⟨k + 1, by go_num, by omega, hJ4, hf4⟩, by simp only [intOf]; omega⟩
      · gi_wp2
        refine bodyPost_ret (results_none rfl _ _ _) rfl ?_
        exact ⟨⟨_, rfl⟩, .inr ⟨_, f0, HPX.out, hJ3⟩⟩
    · have hki : ¬ (k : Int) < T.length := by omega
      have hfin := HJp.out
      rw [List.take_of_length_le (by rw [lnsS_length]; omega)] at hfin
      gi_wp2
      go_end0
      first | exact ⟨⟨_, rfl⟩, .inl ⟨_, f0, rfl, hfin⟩⟩ | exact ⟨⟨_, rfl⟩, .inl ⟨f0, hfin⟩⟩

theorem strs_step (L : List (List Cl)) (n k : Nat) (hn : n = L.length) (l : List Cl) (hl : L[k]? = some l) :
    (sv ((L.take k).map lineM) ++ List.replicate (n - k) (sv1 [])).set k (sv1 (lineM l)) = sv ((L.take (k + 1)).map lineM) ++ List.replicate (n - (k + 1)) (sv1 []) := by
  have hk : k < L.length := (List.getElem?_eq_some_iff.1 hl).1
  have e : L[k] = l := by rw [List.getElem?_eq_getElem hk] at hl; injection hl
  have hlen : (sv ((L.take k).map lineM)).length = k := by rw [sv_length, List.length_map, List.length_take]; omega
  rw [List.set_append_right _ _ (by omega), hlen, Nat.sub_self, show n - k = (n - (k + 1)) + 1 by omega, List.replicate_succ, List.set_cons_zero, List.take_succ_eq_append_getElem hk, e]
  simp [sv, sv1]
set_option maxRecDepth 100000 in
set_option maxHeartbeats 8000000 in
theorem ftexts_any {w : World} {D : Nat → Prop} {A : Option Addr} {c : Nat} {L : List (List Cl)} (h : RfAt w D A c L) (row col : Int) (sn : Bool) (h5 : L.length ≤ 100000) (hs : ∀ l ∈ L, l.length ≤ 100000 ∧ (lineM l).length ≤ 140737488351232) :
    Calls Tryd.prog 66 #[.agg #[.slice A L.length c, .int .i64 row, .int .i64 col, .bool sn]] w fun e w' => ∃ B b, e = .returned (.func (.func 133) #[] #[.pointer (some ⟨B, 0, none⟩)]) ∧ w.heap.size ≤ B ∧ w.heap.size ≤ b ∧
      Blk w' B 68 [.slice (some ⟨b, 0, none⟩) L.length L.length] ∧ Blk w' b 9 (sv (L.map lineM)) ∧ Below w.heap.size w w' := by
  obtain ⟨i0, hi0, hz0, hz1, hz2⟩ := info_parts str_info
  obtain ⟨n, hn⟩ : ∃ n, n = L.length := ⟨_, rfl⟩
  rw [← hn]
  have HI0 := Lib.hid hi0
  have HZ0 := Lib.hid hz0
  have HZ1 := Lib.hid hz1
  have hby : i0.bytes * n ≤ 281474976710656 := by rw [hz2]; omega
  have HBY := Lib.hid hby
  have hmo := made_one (sv1 []) n
  rw [Nat.mul_one] at hmo
  have HM := Lib.hid hmo
  have HN := Lib.hid hn
  have HS := Lib.hid hs
  have H5 : n ≤ 100000 := by omega
  have HR0 := Lib.hid h
  have HB0 : Hid (Below w.heap.size w (w.alloc (.cells #[.slice A n c, .int .i64 row, .int .i64 col, .bool sn] 74))) := Lib.hid ((Below.refl _ w).alloc (Nat.le_refl _) _)
  clear hi0 hz0 hz1 hz2 hby hn hs h h5 hmo
  go_enter Tryd.func66, Tryd.ntmps66
  go_upto_region 1 with (fail)
  have q0 : (w.alloc (.cells #[.slice A n c, .int .i64 row, .int .i64 col, .bool sn] 74)).cell? ⟨w.heap.size, 0, none⟩ = some (.slice A n c) := (Blk.new w 74 [.slice A n c, .int .i64 row, .int .i64 col, .bool sn]).cell 0
  obtain ⟨W1, hW1⟩ : ∃ W1, W1 = w.alloc (.cells #[.slice A n c, .int .i64 row, .int .i64 col, .bool sn] 74) := ⟨_, rfl⟩
  rw [← hW1] at HB0 q0 ⊢
  have hz1 : W1.heap.size = w.heap.size + 1 := by rw [hW1]; simp
  have HZ := Lib.hid hz1
  have HQ0 := Lib.hid ((Blk.new w 74 [.slice A n c, .int .i64 row, .int .i64 col, .bool sn]).cell 0)
  clear hW1 hz1
  go_upto_region 2 with ((with_reducible refine at_dst 9 ?_); refine wpList_make_blk rfl _ _ _ rfl 9 i0 _ 1 Tryd.underlying68 HI0.out HZ0.out HZ1.out .i64 .i64 n n n rfl rfl rfl rfl HBY.out (by simp only [maxLen]; omega) ?_)
  obtain ⟨W2, hW2⟩ : ∃ W2, W2 = W1.alloc (.cells (madeCells #[.string ⟨#[]⟩] n) 9) := ⟨_, rfl⟩
  have hB1 : Blk W2 W1.heap.size 9 (List.replicate n (sv1 [])) := by rw [← HM.out, hW2]; exact Blk.new _ _ _
  have hB2 : Below w.heap.size w W2 := by rw [hW2]; exact HB0.out.alloc HB0.out.size _
  have q1 : W2.cell? ⟨w.heap.size, 0, none⟩ = some (.slice A n c) := by rw [hW2]; exact (World.cell?_alloc_lt W1 _ _ (by have := HZ.out; show w.heap.size < _; omega)).trans q0
  have HB1 := Lib.hid hB1
  have HB2 := Lib.hid hB2
  clear hB1 hB2 q0
  rw [← hW2]
  clear hW2
  go_wp2_with (fail)
  clear q1
  obtain ⟨tb, htb⟩ : ∃ tb, tb = W1.heap.size := ⟨_, rfl⟩
  rw [← htb] at HB1 ⊢
  have htb1 : w.heap.size ≤ tb := by have := HZ.out; omega
  clear htb
  go_loopw [13] (fun v13 wr => ∃ k : Nat, v13 = .int .i64 k ∧ k ≤ n ∧ Blk wr tb 9 (sv ((L.take k).map lineM) ++ List.replicate (n - k) (sv1 [])) ∧ Below w.heap.size w wr) (fun v13 _ => n - (intOf v13).toNat)
  case atStart => exact ⟨0, rfl, by omega, by simpa [sv] using HB1.out, HB2.out⟩
  case round =>
    obtain ⟨k, rfl, hk, hbk, hb⟩ := hrel
    have BK := Lib.hid hbk
    have BB := Lib.hid hb
    clear hbk hb
    by_cases hlt : k < n
    · have hki : (k : Int) < n := by omega
      have hkl : k < L.length := by have := HN.out; omega
      have hl : L[k]? = some L[k] := List.getElem?_eq_getElem hkl
      have hls := HS.out _ (List.getElem_mem hkl)
      generalize L[k] = l at hl hls
      obtain ⟨b', off', Ai, ci, e', hba, hca, ⟨hni, hci⟩, hsd⟩ := (HR0.out.below BB.out).at_ hl
      subst e'
      have HTX := Lib.hid (frtext_any l l.length ci wr.heap.size Ai wr rfl hls.1 hls.2 hsd.sl (Nat.le_refl _))
      have HST := Lib.hid (strs_step L n k HN.out l hl)
      have hlen : (sv ((L.take k).map lineM) ++ List.replicate (n - k) (sv1 [])).length = n := by
        rw [List.length_append, sv_length, List.length_map, List.length_take, List.length_replicate]; have := HN.out; omega
      have HLEN := Lib.hid hlen
      clear hl hls hba hsd hlen hni hci hkl
      go_wp2_with (first
        | (go_at_call 97; refine HTX.out.mono ?_; rintro e w3 ⟨rfl, hb3⟩; have HR3 := Lib.hid (BK.out.below hb3 BK.out.lt); have HB3 := Lib.hid hb3; clear hb3)
        | ((with_reducible refine at_store 22 ?_); refine wpList_store_cell rfl _ _ _ rfl rfl tb k _ (sv ((L.take k).map lineM) ++ List.replicate (n - k) (sv1 [])) (sv1 (lineM l)) rfl rfl HR3.out (by rw [HLEN.out]; exact hlt) (by kernel_rfl) rfl ?_; intro w4 hn4 hg4))
      rw [HST.out] at hn4
      have hb4 : Below w.heap.size w w4 := BB.out.trans ((HB3.out.mono BB.out.size).trans ((chg_of_grown hg4).below (S := one tb) (by have := HB3.out.size; have := BB.out.size; omega) (fun j e => by have e' : j = tb := e; omega)))
      have HN4 := Lib.hid hn4
      have HB4 := Lib.hid hb4
      clear hn4 hg4 hb4
      go_wp2
      go_roundw
      case rel => exact ⟨k + 1, by go_num, by omega, HN4.out, HB4.out⟩
      case measure => simp [intOf]; omega
    · have hki : ¬ (k : Int) < n := by omega
      obtain rfl : k = n := by omega
      have hfin := BK.out
      rw [List.take_of_length_le (by have := HN.out; omega), Nat.sub_self, List.replicate_zero, List.append_nil] at hfin
      have HFIN := Lib.hid hfin
      clear hfin
      go_wp2_with (go_at_call 98; refine (sall_any _ _ _ _).mono ?_; rintro e w3 ⟨rfl, rfl⟩)
      go_ret
      exact ⟨_, _, rfl, BB.out.size, htb1, Blk.new wr _ _, HFIN.out.alloc _, BB.out.alloc BB.out.size _⟩
end Go.Proofs.YtaijiapolippaaaDoor
