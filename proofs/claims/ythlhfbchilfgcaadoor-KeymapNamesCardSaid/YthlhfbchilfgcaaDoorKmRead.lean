/-
  Walks: Atoi in one sentence; named; read.
-/
import Derived.Test.YthlhfbchilfgcaaDoorKmNameF
import Derived.Test.YthlhfbchilfgcaaDoorKmCut
import Derived.Test.YthlhfbchilfgcaaDoorKmNot
namespace Go.Proofs.YthlhfbchilfgcaaDoor
open Go.RowKit Go.Sort
set_option linter.unusedVariables false
set_option linter.unusedSimpArgs false

theorem Kv.one (k : Kv) : ∀ v ∈ k.cells, v.oneCell' = true := by
  intro v hv
  simp [Kv.cells] at hv
  rcases hv with rfl | rfl | rfl | rfl | rfl | rfl <;> rfl
theorem kresults_ct {fn : Func} {tmps : Array Value} {a t b : Nat} {ad : Nat} {cs : List Value} {v : Value} {w : World} {d : TypeDesc} (hf : fn.results = #[.cell a t, .tmp b]) (ha : tmps.getD a undef = .pointer (some ⟨ad, 0, none⟩)) (hb : tmps.getD b undef = v)
    (hc : w.rangeAt ad 0 cs) (hu : Tryd.prog.underlying t = some d) (hd : d.isRow = true) (hi : (Tryd.prog.info? t).map (·.size) = some cs.length) : (results fn tmps).run Tryd.prog w = .ok (.tuple #[.agg cs.toArray, v]) w := by
  have hl := run_loadVar_mid (P := Tryd.prog) w ad 0 t cs d hc hu hd hi
  have ha' := kgetD_eq ha
  have hb' := kgetD_eq hb
  unfold results
  simp [hf, ha', hb', asAddr, hl]
theorem kfin {w w1 w9 : World} {g : Nat} (hg0 : w.heap.size ≤ g) (hb : Below w.heap.size w w1) (hg : w1.grownBy w9 (some g)) : Below w.heap.size w w9 := hb.grown hg hb.size (fun j hj => by injection hj with hj; omega)
/-- the library's two errors lie in memory -/
structure NumT (w : World) : Prop where
  sy : ∃ ev, w.cell? ⟨5, 0, none⟩ = some ev ∧ (ev = .nilIface ∨ ∃ te pe, ev = .iface te pe)
  rg : ∃ ev, w.cell? ⟨6, 0, none⟩ = some ev ∧ (ev = .nilIface ∨ ∃ te pe, ev = .iface te pe)
theorem NumT.bel {w w' : World} (h : NumT w) (hb : Below w.heap.size w w') : NumT w' := by
  obtain ⟨⟨e1, h1, h2⟩, ⟨e3, h3, h4⟩⟩ := h
  exact ⟨⟨e1, (hb.cell (p := ⟨5, 0, none⟩) (cell_lt' h1)).trans h1, h2⟩, ⟨e3, (hb.cell (p := ⟨6, 0, none⟩) (cell_lt' h3)).trans h3, h4⟩⟩
def atoiV (l : List UInt8) : Int := match Lib.atoiAll l with
  | .ok v => v
  | .range => Lib.atoiSat l
  | _ => 0
theorem atoi_any (l : List UInt8) (hl : l.length ≤ 100) (w : World) (hN : NumT w) :
    Calls Tryd.prog 56 #[.string ⟨l.toArray⟩] w fun e w' => ∃ ev, e = .returned (.tuple #[.int .i64 (atoiV l), ev]) ∧ Below w.heap.size w w' := by
  have hsz : (⟨l.toArray⟩ : ByteArray).size = l.length := by simp [ByteArray.size]
  have hd : (⟨l.toArray⟩ : ByteArray).data.toList = l := by simp
  unfold atoiV
  cases h : Lib.atoiAll l with
  | ok v =>
    refine (sh_Atoi_ok ⟨l.toArray⟩ (by omega) v (by rw [hd]; exact h) w).mono ?_
    rintro e w' ⟨rfl, h⟩
    refine ⟨_, rfl, ?_⟩
    rcases h with rfl | ⟨t, rfl⟩
    · exact Below.refl _ _
    · exact Joins.below_bytesWorld _ _ _ _ (Nat.le_refl _)
  | range =>
    obtain ⟨ev, h1, h2⟩ := hN.rg
    refine (sh_Atoi_range ⟨l.toArray⟩ (by omega) (by rw [hd]; exact h) ev w h1 h2).mono ?_
    rintro e w' ⟨N, rfl, _, _, hb⟩
    rw [hd]
    exact ⟨_, rfl, hb⟩
  | _ =>
    obtain ⟨ev, h1, h2⟩ := hN.sy
    refine (Any.strconv_Atoi_syntax sh_laysC172 ⟨l.toArray⟩ (by omega) (by rw [hd]; exact h) ev w h1 h2).mono ?_
    rintro e w' ⟨N, rfl, _, _, hb⟩
    exact ⟨_, rfl, hb⟩

def namedK (s : List UInt8) : Nat := ((List.range 17).find? (fun i => nameT.getD i [] == s)).getD 0
theorem named_at {s : List UInt8} {i : Nat} (hi : i < 17) (h : nameT.getD i [] = s) (hm : ∀ j, j < i → nameT.getD j [] ≠ s) : namedK s = i := by
  unfold namedK
  rw [(List.find?_range_eq_some (n := 17) (i := i)).2 ⟨by simpa using h, by simpa using hi, fun j hj => by simpa using hm j hj⟩]
  rfl
theorem named_no {s : List UInt8} (hm : ∀ j, j < 17 → nameT.getD j [] ≠ s) : namedK s = 0 := by
  unfold namedK
  rw [List.find?_range_eq_none.2 (fun j hj => by simpa using hm j hj)]
  rfl
theorem run_index17 (cs : Array Value) (i : Nat) (v : Value) (hi : i < 17) (hz : cs.size = 17) (hv : ∀ h : i < cs.size, cs[i] = v) (h1 : v.cells = #[v]) (w : World) : (Instr.index 96 (.agg cs) (.int .i64 i)).run Tryd.prog w = .ok v w := by
  have hs : (Tryd.prog.info? 9).map (·.size) = some 1 := by kernel_rfl
  have hi0 : (0 : Int) ≤ (i : Int) := by omega
  have hi1 : (i : Int) < 17 := by omega
  have hx := hv (by omega)
  cases hq : Tryd.prog.info? 9 with
  | none => simp [hq] at hs
  | some j =>
    have hj : j.size = 1 := by simpa [hq] using hs
    simp [Instr.index, run_underlying Tryd.underlying96, asIntOf, hi1, go_sem, sizeOf, typeInfo, hq, hj]
    rw [if_pos hi, Array.getElem?_eq_getElem (by omega), hx]
    simp [go_sem]
set_option maxRecDepth 100000 in
set_option maxHeartbeats 4000000 in
theorem named_any (s : List UInt8) (w : World) (hT : StrT w 2 nameT) :
    Calls Tryd.prog 55 #[.string ⟨s.toArray⟩] w fun e w' => e = .returned (.int .i64 (namedK s)) ∧ w = w' := by
  have hr : w.rangeAt 2 0 (strV nameT) := fun j v hv => by
    have hj : j < nameT.length := by have := (List.getElem?_eq_some_iff.1 hv).1; simpa [strV] using this
    rw [Nat.zero_add, hT j hj]
    rw [← hv, strV, List.getElem?_map, List.getElem?_eq_getElem hj, List.getD_eq_getElem?_getD, List.getElem?_eq_getElem hj]
    rfl
  have HR := Lib.hid hr
  obtain ⟨q, hq⟩ : ∃ q : ByteArray, q = ⟨s.toArray⟩ := ⟨_, rfl⟩
  have hqs : q.toList = s := by rw [hq, Lib.toList_data]
  rw [← hq]
  obtain ⟨z, hz⟩ : ∃ z, z = namedK s := ⟨_, rfl⟩
  rw [← hz]
  have HZ := Lib.hid hz
  have HQ := Lib.hid hqs
  clear hr hT hq hqs hz
  go_enter Tryd.func55, Tryd.ntmps55
  go_upto_region 2 with (((with_reducible refine at_dst 5 ?_); refine wpList_load_mid rfl _ _ rfl 2 0 rfl (strV nameT) _ HR.out Tryd.underlying96 rfl (by kernel_rfl) ?_))
  obtain ⟨cs, hcs⟩ : ∃ cs : Array Value, cs = (strV nameT).toArray := ⟨_, rfl⟩
  have hcz : cs.size = 17 := by rw [hcs]; rfl
  have HG := Lib.hid (show ∀ (i : Nat) (h : i < cs.size), i < 17 → cs[i] = .string ⟨(nameT.getD i []).toArray⟩ by
    subst hcs
    intro i h hi
    have hu : nameT.length = 17 := rfl
    rw [List.getD_eq_getElem?_getD, List.getElem?_eq_getElem (by omega)]
    simp [strV])
  rw [← hcs]
  clear hcs HR
  go_wp2_with (fail)
  go_loopw [6] (fun v6 wr => ∃ i : Nat, v6 = .int .i64 (i : Int) ∧ i ≤ 17 ∧ (∀ j, j < i → nameT.getD j [] ≠ s) ∧ wr = w) (fun v6 _ => 17 - (intOf v6).toNat)
  case atStart => exact ⟨0, rfl, by omega, fun j hj => absurd hj (by omega), rfl⟩
  case round =>
    obtain ⟨i, rfl, hi, hm, rfl⟩ := hrel
    have HM := Lib.hid hm
    clear hm
    by_cases hlt : i < 17
    · have hki : (i : Int) < 17 := by omega
      obtain ⟨U, hU⟩ : ∃ U : ByteArray, U = ⟨(nameT.getD i []).toArray⟩ := ⟨_, rfl⟩
      have hix := run_index17 cs i (.string U) hlt hcz (fun h => by rw [hU]; exact HG.out i h hlt) rfl
      have hUl : U.toList = nameT.getD i [] := by rw [hU, Lib.toList_data]
      by_cases he : nameT.getD i [] = s
      · have hb : (U.toList == q.toList) = true := by rw [hUl, HQ.out, he]; simp
        have HE : Hid (z = i) := Lib.hid (by rw [HZ.out]; exact named_at hlt he HM.out)
        clear hU hUl he
        go_wp2_with (fail)
        go_ret
        exact ⟨by rw [HE.out]; rfl, rfl⟩
      · have hb : (U.toList == q.toList) = false := by rw [hUl, HQ.out, beq_eq_false_iff_ne]; exact he
        have HE := Lib.hid he
        clear hU hUl he
        go_wp2_with (fail)
        go_roundw
        case rel => exact ⟨i + 1, by go_num, by omega, fun j hj => by
          by_cases h : j < i
          · exact HM.out j h
          · obtain rfl : j = i := by omega
            exact HE.out, by first | trivial | rfl⟩
        case measure => simp [intOf]; omega
    · have hki : ¬ (i : Int) < 17 := by omega
      obtain rfl : i = 17 := by omega
      have HE : Hid (z = 0) := Lib.hid (by rw [HZ.out]; exact named_no (fun j hj => HM.out j (by omega)))
      go_wp2_with (fail)
      go_ret
      exact ⟨by rw [HE.out]; rfl, rfl⟩

/-- what a name is read as, whatever it is -/
def readK (s : List UInt8) : Kv :=
  let s1 := begV s [97, 108, 116, 45]
  let s2 := begV s1.1 [99, 116, 108, 45]
  let s3 := begV s2.1 [115, 104, 105, 102, 116, 45]
  let b := begV s3.1 [116, 101, 120, 116, 46]
  let d := begV s3.1 [99, 116, 114, 108, 45]
  let f := begV s3.1 [102]
  if b.2 = true then ⟨1, b.1, 0, s1.2, s3.2, s2.2⟩
  else if d.2 = true then ⟨17, d.1, 0, s1.2, s3.2, s2.2⟩
  else if namedK s3.1 ≠ 0 then ⟨namedK s3.1, [], 0, s1.2, s3.2, s2.2⟩
  else if f.2 = true then ⟨18, [], atoiV f.1, s1.2, s3.2, s2.2⟩
  else ⟨0, [], 0, s1.2, s3.2, s2.2⟩
theorem begV_len (s p : List UInt8) : (begV s p).1.length ≤ s.length := by
  unfold begV
  split <;> simp
set_option maxRecDepth 100000 in
set_option maxHeartbeats 8000000 in
theorem read_any (s : List UInt8) (hs : s.length ≤ 60) (w : World) (hT : StrT w 2 nameT) (hN : NumT w) :
    Calls Tryd.prog 36 #[.string ⟨s.toArray⟩] w fun e w' => e = .returned (readK s).agg ∧ Below w.heap.size w w' := by
  have HR : Hid (readK s = readK s) := Lib.hid rfl
  obtain ⟨K, hK⟩ : ∃ K, K = readK s := ⟨_, rfl⟩
  rw [← hK]
  unfold readK at hK
  have C1 := cutPrefix_any s [97, 108, 116, 45] (by omega) (by decide)
  have l1 := begV_len s [97, 108, 116, 45]
  generalize begV s [97, 108, 116, 45] = v1 at C1 l1 hK
  obtain ⟨s1, a⟩ := v1
  simp only at C1 l1 hK
  have C2 := cutPrefix_any s1 [99, 116, 108, 45] (by omega) (by decide)
  have l2 := begV_len s1 [99, 116, 108, 45]
  generalize begV s1 [99, 116, 108, 45] = v2 at C2 l2 hK
  obtain ⟨s2, t⟩ := v2
  simp only at C2 l2 hK
  have C3 := cutPrefix_any s2 [115, 104, 105, 102, 116, 45] (by omega) (by decide)
  have l3 := begV_len s2 [115, 104, 105, 102, 116, 45]
  generalize begV s2 [115, 104, 105, 102, 116, 45] = v3 at C3 l3 hK
  obtain ⟨s3, h⟩ := v3
  simp only at C3 l3 hK
  have C4 := cutPrefix_any s3 [116, 101, 120, 116, 46] (by omega) (by decide)
  have C5 := cutPrefix_any s3 [99, 116, 114, 108, 45] (by omega) (by decide)
  have C6 := cutPrefix_any s3 [102] (by omega) (by decide)
  have l6 := begV_len s3 [102]
  generalize begV s3 [116, 101, 120, 116, 46] = v4 at C4 hK
  generalize begV s3 [99, 116, 114, 108, 45] = v5 at C5 hK
  generalize begV s3 [102] = v6 at C6 l6 hK
  obtain ⟨s4, b4⟩ := v4
  obtain ⟨s5, b5⟩ := v5
  obtain ⟨s6, b6⟩ := v6
  simp only at C4 C5 C6 l6 hK
  have HC1 := Lib.hid C1
  have HC2 := Lib.hid C2
  have HC3 := Lib.hid C3
  have HC4 := Lib.hid C4
  have HC5 := Lib.hid C5
  have HC6 := Lib.hid C6
  have HNM := Lib.hid (fun W (hW : Below w.heap.size w W) => named_any s3 W (hT.below (by decide) hW (Nat.le_refl _)))
  have HAT := Lib.hid (fun W (hW : Below w.heap.size w W) => atoi_any s6 (by omega) W (hN.bel hW))
  generalize namedK s3 = nk at HNM hK
  generalize atoiV s6 = av at HAT hK
  clear C1 C2 C3 C4 C5 C6 l1 l2 l3 l6 hT hN hs
  have t1 : True := trivial
  have t2 : True := trivial
  have t3 : True := trivial
  have t4 : True := trivial
  have t5 : True := trivial
  have HB2 := Lib.hid (fun o o' => ((kbel w o).alloc (by simp) o' : Below w.heap.size w ((w.alloc o).alloc o')))
  have HKK := Lib.hid hK
  clear hK
  go_enter Tryd.func36, Tryd.ntmps36
  go_upto_region 6 with (first
    | (go_at_call 54; have _t := t1; refine (HC1.out _).mono ?_; rintro e w' ⟨rfl, rfl⟩; clear _t t1)
    | (go_at_call 54; have _t := t2; refine (HC2.out _).mono ?_; rintro e w' ⟨rfl, rfl⟩; clear _t t2)
    | (go_at_call 54; have _t := t3; refine (HC3.out _).mono ?_; rintro e w' ⟨rfl, rfl⟩; clear _t t3)
    | (go_at_call 54; have _t := t4; refine (HC4.out _).mono ?_; rintro e w' ⟨rfl, rfl⟩; clear _t t4))
  cases b4 with
  | true =>
    obtain rfl : K = ⟨1, s4, 0, a, h, t⟩ := HKK.out
    go_wp2_with (fail)
    exact bodyPost_ret (v := (Kv.mk 1 s4 0 a h t).agg) (by simp [results, Tryd.results36, go_sem]; rfl) rfl ⟨rfl, HB2.out _ _⟩
  | false =>
    go_upto_region 9 with (go_at_call 54; refine (HC5.out _).mono ?_; rintro e w' ⟨rfl, rfl⟩)
    cases b5 with
    | true =>
      obtain rfl : K = ⟨17, s5, 0, a, h, t⟩ := HKK.out
      go_wp2_with (fail)
      exact bodyPost_ret (v := (Kv.mk 17 s5 0 a h t).agg) (by simp [results, Tryd.results36, go_sem]; rfl) rfl ⟨rfl, HB2.out _ _⟩
    | false =>
      go_upto_region 12 with (go_at_call 55; refine (HNM.out _ (HB2.out _ _)).mono ?_; rintro e w' ⟨rfl, rfl⟩)
      by_cases hnk : nk = 0
      · subst hnk
        go_upto_region 15 with (go_at_call 54; refine (HC6.out _).mono ?_; rintro e w' ⟨rfl, rfl⟩)
        cases b6 with
        | false =>
          obtain rfl : K = ⟨0, [], 0, a, h, t⟩ := HKK.out
          go_wp2_with (fail)
          exact bodyPost_ret (v := (Kv.mk 0 [] 0 a h t).agg) (by simp [results, Tryd.results36, go_sem]; rfl) rfl ⟨rfl, HB2.out _ _⟩
        | true =>
          obtain rfl : K = ⟨18, [], av, a, h, t⟩ := HKK.out
          go_upto_region 17 with (fail)
          have hk1 : Blk ((w.alloc (.cells #[.int .i64 0, .string ⟨#[]⟩, .int .i64 0, .bool false, .bool false, .bool false] 24)).alloc (.cells #[.int .i64 18, .string ⟨#[]⟩, .int .i64 0, .bool a, .bool h, .bool t] 24)) w.heap.size 24 Kv.no.cells := (Blk.new w 24 Kv.no.cells).alloc _
          have hk2 := Blk.new (w.alloc (.cells #[.int .i64 0, .string ⟨#[]⟩, .int .i64 0, .bool false, .bool false, .bool false] 24)) 24 (Kv.mk 18 [] 0 a h t).cells
          simp only [World.size_alloc] at hk2
          have HBW := Lib.hid (HB2.out (.cells #[.int .i64 0, .string ⟨#[]⟩, .int .i64 0, .bool false, .bool false, .bool false] 24) (.cells #[.int .i64 18, .string ⟨#[]⟩, .int .i64 0, .bool a, .bool h, .bool t] 24))
          generalize hW2 : (w.alloc (.cells #[.int .i64 0, .string ⟨#[]⟩, .int .i64 0, .bool false, .bool false, .bool false] 24)).alloc (.cells #[.int .i64 18, .string ⟨#[]⟩, .int .i64 0, .bool a, .bool h, .bool t] 24) = W2 at HBW ⊢
          have hk1' : Blk W2 w.heap.size 24 Kv.no.cells := hW2 ▸ hk1
          have hk2' : Blk W2 (w.heap.size + 1) 24 (Kv.mk 18 [] 0 a h t).cells := hW2 ▸ hk2
          have HK1 := Lib.hid hk1'
          have HK2 := Lib.hid hk2'
          clear hk1 hk2 hk1' hk2' hW2
          go_upto_region 18 with (first
            | (go_at_call 56; refine (HAT.out _ HBW.out).mono ?_; rintro e w5 ⟨ev, rfl, hb5⟩; have HB5 := Lib.hid (kstep HBW.out hb5); have HR1 := Lib.hid (HK1.out.below hb5 HK1.out.lt); have HR2 := Lib.hid (HK2.out.below hb5 HK2.out.lt); clear hb5)
            | ((with_reducible refine at_store 65 ?_); refine wpList_store_cell rfl _ _ _ rfl rfl (w.heap.size + 1) 2 _ _ (.int .i64 av) rfl rfl HR2.out (by simp [Kv.len]) (by kernel_rfl) rfl ?_; intro w6 hn6 hg6; have HN6 := Lib.hid hn6; have HG6 := Lib.hid hg6; clear hn6 hg6))
          have hd6 : Blk w6 (w.heap.size + 1) 24 (Kv.mk 18 [] av a h t).cells := HN6.out
          have hr6 : Blk w6 w.heap.size 24 Kv.no.cells := (HG6.out.block w.heap.size HR1.out.lt (fun e => by injection e with e; omega)).trans HR1.out
          have HB6 := Lib.hid (kfin (by omega) HB5.out HG6.out)
          have z0 : w6.cell? ⟨w.heap.size + 1, 0, none⟩ = some (.int .i64 18) := hd6.cell 0
          have z1 : w6.cell? ⟨w.heap.size + 1, 1, none⟩ = some (.string ⟨#[]⟩) := hd6.cell 1
          have z2 : w6.cell? ⟨w.heap.size + 1, 2, none⟩ = some (.int .i64 av) := hd6.cell 2
          have z3 : w6.cell? ⟨w.heap.size + 1, 3, none⟩ = some (.bool a) := hd6.cell 3
          have z4 : w6.cell? ⟨w.heap.size + 1, 4, none⟩ = some (.bool h) := hd6.cell 4
          have z5 : w6.cell? ⟨w.heap.size + 1, 5, none⟩ = some (.bool t) := hd6.cell 5
          have HR6 := Lib.hid hr6
          clear hd6 hr6
          go_wp2_with ((with_reducible refine at_store 2 ?_); refine wpList_store_blk rfl _ _ _ rfl rfl w.heap.size 0 _ Kv.no.cells (Kv.mk 18 [] av a h t).cells rfl rfl HR6.out (by simp [Kv.len]) kv_size (Kv.one _) ?_; intro w9 hn9 hg9)
          exact bodyPost_ret (kresults_c rfl rfl (kwhole hn9) Tryd.underlying24 rfl kv_size) rfl ⟨rfl, kfin (Nat.le_refl _) HB6.out hg9⟩
      · obtain rfl : K = ⟨nk, [], 0, a, h, t⟩ := HKK.out.trans (if_pos hnk)
        have hnz : ((nk : Int) == 0) = false := by simp; omega
        have hnz2 : ¬ (nk : Int) = 0 := by omega
        clear hnk
        go_wp2_with (fail)
        exact bodyPost_ret (v := (Kv.mk nk [] 0 a h t).agg) (by simp [results, Tryd.results36, go_sem]; rfl) rfl ⟨rfl, HB2.out _ _⟩
end Go.Proofs.YthlhfbchilfgcaaDoor
