/-
  Walks: sequenceKey.
-/
import Derived.Test.YteolafeeggjblaaDoorKnNums
import Derived.Test.YteolafeeggjblaaDoorKnFns2
import Derived.Deep.CutBlock
import Derived.Test.YteolafeeggjblaaDoorRegT
namespace Go.Proofs.YteolafeeggjblaaDoor
open Go.RowKit Go.Sort
set_option linter.unusedVariables false
set_option linter.unusedSimpArgs false

set_option maxRecDepth 100000 in
set_option maxHeartbeats 4000000 in
theorem seq_none (p : List UInt8) (f : UInt8) (hp : p.length ≤ 100000) (h : numsK p = []) (w : World) :
    Calls Tryd.prog 65 #[.string ⟨p.toArray⟩, .int .u8 f.toNat] w fun e w' => e = .returned Kv.no.agg ∧ Below w.heap.size w w' := by
  obtain ⟨W0, HW0, HB0, HZ⟩ := kzero w
  have HQ := Lib.hid (numbers_any p hp W0)
  rw [h] at HQ
  clear h
  go_enter Tryd.func65, Tryd.ntmps65
  go_upto_region 1 with fail
  rw [← HW0.out]
  clear HW0
  go_wp2_with (first
    | (go_at_call 76; refine HQ.out.mono ?_; rintro e w1 ⟨A, n, c, rfl, hn, hS, hb1⟩; obtain rfl : n = 0 := hn; have HB1 := Lib.hid (kstep HB0.out hb1); have HZ1 := Lib.hid (HZ.out.below hb1 HZ.out.lt); clear hb1 hS)
    | ((with_reducible refine at_store 4 ?_); refine wpList_store_blk rfl _ _ _ rfl rfl w.heap.size 0 _ Kv.no.cells Kv.no.cells rfl rfl HZ1.out (by simp [Kv.len]) kv_size (Kv.one _) ?_; intro w9 hn9 hg9))
  exact bodyPost_ret (kresults_c rfl rfl (kwhole hn9) Tryd.underlying40 rfl kv_size) rfl ⟨rfl, kfin HB1.out hg9⟩

/-- behind the numbers: the list, the result's cell, the key's cell -/
structure SqS (wx : World) (w : World) (g : Nat) (A : Option Addr) (L : List Int) (K : Kv) : Prop where
  z : Blk wx w.heap.size 40 Kv.no.cells
  k : Blk wx g 40 K.cells
  lt : w.heap.size < g
  s : Sl wx g A (i64w L)
  b : Below w.heap.size w wx
namespace SqS
variable {wx wy w : World} {g : Nat} {A : Option Addr} {L : List Int} {K K' : Kv}
theorem bel (h : SqS wx w g A L K) (hb : Below wx.heap.size wx wy) : SqS wy w g A L K :=
  ⟨h.z.below hb h.z.lt, h.k.below hb h.k.lt, h.lt, h.s.below (hb.mono (Nat.le_of_lt h.k.lt)), kstep h.b hb⟩
theorem put (h : SqS wx w g A L K) (hn : Blk wy g 40 K'.cells) (hg : wx.grownBy wy (some g)) : SqS wy w g A L K' :=
  ⟨(hg.block _ h.z.lt (fun e => by have := h.lt; injection e with e; omega)).trans h.z, hn, h.lt, h.s.grown hg (Nat.le_of_lt h.k.lt) (fun j hj => by injection hj with hj; omega), h.b.grown hg h.b.size (fun j hj => by injection hj with hj; have := h.lt; omega)⟩
theorem set0 (h : SqS wx w g A L Kv.no) : SqS (wx.setCell ⟨g, 0, none⟩ (.int .i64 4)) w g A L (kc 4) :=
  ⟨by
    have e : (wx.setCell ⟨g, 0, none⟩ (.int .i64 4)).heap[w.heap.size]? = wx.heap[w.heap.size]? := (Chg.setCell (S := one g) (Chg.refl _ wx) (p := ⟨g, 0, none⟩) (.inl rfl) (.int .i64 4)).block _ h.z.lt (fun e => by have := h.lt; have e' : w.heap.size = g := e; omega)
    exact e.trans h.z, h.k.set_ 0 (.int .i64 4), h.lt, h.s.setCell (p := ⟨g, 0, none⟩) (Nat.le_refl _) _, h.b.setCell (p := ⟨g, 0, none⟩) (Nat.le_of_lt h.lt) _⟩
theorem new {w1 : World} (hz : Blk w1 w.heap.size 40 Kv.no.cells) (hs : Sl w1 w1.heap.size A (i64w L)) (hb : Below w.heap.size w w1) :
    SqS (w1.alloc (.cells #[.int .i64 0, .string ⟨#[]⟩, .int .i64 0, .bool false, .bool false, .bool false] 40)) w w1.heap.size A L Kv.no :=
  ⟨hz.alloc _, Blk.new w1 40 Kv.no.cells, hz.lt, hs.alloc (Nat.le_refl _) _, hb.alloc hb.size _⟩
end SqS
theorem seq_other {p : List UInt8} {L : List Int} {f : UInt8} (h1 : ¬ (f = 80 ∨ f = 81 ∨ f = 82 ∨ f = 83)) (h2 : ¬ (f = 65 ∨ f = 66 ∨ f = 67 ∨ f = 68 ∨ f = 72 ∨ f = 70)) (h3 : ¬ f = 90) (h4 : ¬ f = 126) : baseK p L f = Kv.no := by
  unfold baseK; rw [if_neg h1, if_neg h2, if_neg h3, if_neg h4]
set_option maxRecDepth 100000 in
set_option maxHeartbeats 8000000 in
theorem seq_one (p : List UInt8) (f : UInt8) (hp : p.length ≤ 100000) (x0 : Int) (hL : numsK p = [x0]) (hx : 0 ≤ x0 ∧ x0 ≤ 9999) (w : World) :
    Calls Tryd.prog 65 #[.string ⟨p.toArray⟩, .int .u8 f.toNat] w fun e w' => e = .returned (baseK p [x0] f).agg ∧ Below w.heap.size w w' := by
  obtain ⟨W0, HW0, HB0, HZ⟩ := kzero w
  have HQ := Lib.hid (numbers_any p hp W0)
  rw [hL] at HQ
  obtain ⟨b, hb⟩ : ∃ b : ByteArray, b = ⟨p.toArray⟩ := ⟨_, rfl⟩
  rw [← hb] at HQ ⊢
  have HPB := Lib.hid (show b.toList = p by rw [hb, Lib.toList_data])
  clear hL hb
  obtain ⟨R, hR⟩ : ∃ R, R = baseK p [x0] f := ⟨_, rfl⟩
  rw [← hR]
  have HR := Lib.hid hR
  clear hR
  go_enter Tryd.func65, Tryd.ntmps65
  go_upto_region 1 with fail
  rw [← HW0.out]
  clear HW0
  go_upto_block 0 with (first
    | (go_at_call 76; refine HQ.out.mono ?_; rintro e w1 ⟨A, n, c, rfl, hn, hS, hb1⟩; obtain rfl : n = 1 := hn; have HX := Lib.hid (SqS.new (HZ.out.below hb1 HZ.out.lt) hS (kstep HB0.out hb1)); clear hb1 hS))
  obtain ⟨bk, off, rfl, _, hcell⟩ := HX.out.s.open_ (by simp [i64w])
  generalize w1.alloc (.cells #[.int .i64 0, .string ⟨#[]⟩, .int .i64 0, .bool false, .bool false, .bool false] 40) = w2 at HX hcell ⊢
  have c0 : w2.cell? ⟨bk, off, none⟩ = some (.int .i64 x0) := hcell 0 _ rfl
  clear hcell
  generalize w1.heap.size = g at HX ⊢
  go_cut [] (fun wx => SqS wx w g (some ⟨bk, off, none⟩) [x0] R)
  case first =>
    by_cases h1 : f = 80 ∨ f = 81 ∨ f = 82 ∨ f = 83
    · have HE : Hid (R = Kv.no) := Lib.hid (by rw [HR.out]; unfold baseK; rw [if_pos h1, if_neg (fun h => by cases h.1)])
      rcases h1 with rfl | rfl | rfl | rfl
      all_goals
        go_wp2_with (fail)
        go_meet
        rw [HE.out]
        exact HX.out
    by_cases h2 : f = 65 ∨ f = 66 ∨ f = 67 ∨ f = 68 ∨ f = 72 ∨ f = 70
    · clear h1
      have h1 := h2
      clear h2
      by_cases hx1 : x0 = 1
      · rcases h1 with rfl | rfl | rfl | rfl | rfl | rfl
        · have HQL := Lib.hid (letterKey_any 65)
          rw [show (((65 : UInt8).toNat : Nat) : Int) = 65 from rfl] at HQL
          have HE : Hid (R = letK 65) := Lib.hid (by rw [HR.out]; unfold baseK; rw [if_neg (by decide), if_pos (by decide), if_pos (show [x0].getD 0 0 = 1 from hx1)])
          generalize letK 65 = K at HQL HE
          subst hx1
          go_wp2_with (first
            | (go_at_call 66; refine (HQL.out _).mono ?_; rintro e w3 ⟨rfl, hb3⟩; have HX3 := Lib.hid (HX.out.bel hb3); clear hb3)
            | ((with_reducible refine at_store 6 ?_); refine wpList_store_blk rfl _ _ _ rfl rfl g 0 _ Kv.no.cells K.cells rfl rfl HX3.out.k (by simp [Kv.len]) kv_size (Kv.one _) ?_; intro w9 hn9 hg9))
          go_meet
          rw [HE.out]
          exact HX3.out.put hn9 hg9
        · have HQL := Lib.hid (letterKey_any 66)
          rw [show (((66 : UInt8).toNat : Nat) : Int) = 66 from rfl] at HQL
          have HE : Hid (R = letK 66) := Lib.hid (by rw [HR.out]; unfold baseK; rw [if_neg (by decide), if_pos (by decide), if_pos (show [x0].getD 0 0 = 1 from hx1)])
          generalize letK 66 = K at HQL HE
          subst hx1
          go_wp2_with (first
            | (go_at_call 66; refine (HQL.out _).mono ?_; rintro e w3 ⟨rfl, hb3⟩; have HX3 := Lib.hid (HX.out.bel hb3); clear hb3)
            | ((with_reducible refine at_store 6 ?_); refine wpList_store_blk rfl _ _ _ rfl rfl g 0 _ Kv.no.cells K.cells rfl rfl HX3.out.k (by simp [Kv.len]) kv_size (Kv.one _) ?_; intro w9 hn9 hg9))
          go_meet
          rw [HE.out]
          exact HX3.out.put hn9 hg9
        · have HQL := Lib.hid (letterKey_any 67)
          rw [show (((67 : UInt8).toNat : Nat) : Int) = 67 from rfl] at HQL
          have HE : Hid (R = letK 67) := Lib.hid (by rw [HR.out]; unfold baseK; rw [if_neg (by decide), if_pos (by decide), if_pos (show [x0].getD 0 0 = 1 from hx1)])
          generalize letK 67 = K at HQL HE
          subst hx1
          go_wp2_with (first
            | (go_at_call 66; refine (HQL.out _).mono ?_; rintro e w3 ⟨rfl, hb3⟩; have HX3 := Lib.hid (HX.out.bel hb3); clear hb3)
            | ((with_reducible refine at_store 6 ?_); refine wpList_store_blk rfl _ _ _ rfl rfl g 0 _ Kv.no.cells K.cells rfl rfl HX3.out.k (by simp [Kv.len]) kv_size (Kv.one _) ?_; intro w9 hn9 hg9))
          go_meet
          rw [HE.out]
          exact HX3.out.put hn9 hg9
        · have HQL := Lib.hid (letterKey_any 68)
          rw [show (((68 : UInt8).toNat : Nat) : Int) = 68 from rfl] at HQL
          have HE : Hid (R = letK 68) := Lib.hid (by rw [HR.out]; unfold baseK; rw [if_neg (by decide), if_pos (by decide), if_pos (show [x0].getD 0 0 = 1 from hx1)])
          generalize letK 68 = K at HQL HE
          subst hx1
          go_wp2_with (first
            | (go_at_call 66; refine (HQL.out _).mono ?_; rintro e w3 ⟨rfl, hb3⟩; have HX3 := Lib.hid (HX.out.bel hb3); clear hb3)
            | ((with_reducible refine at_store 6 ?_); refine wpList_store_blk rfl _ _ _ rfl rfl g 0 _ Kv.no.cells K.cells rfl rfl HX3.out.k (by simp [Kv.len]) kv_size (Kv.one _) ?_; intro w9 hn9 hg9))
          go_meet
          rw [HE.out]
          exact HX3.out.put hn9 hg9
        · have HQL := Lib.hid (letterKey_any 72)
          rw [show (((72 : UInt8).toNat : Nat) : Int) = 72 from rfl] at HQL
          have HE : Hid (R = letK 72) := Lib.hid (by rw [HR.out]; unfold baseK; rw [if_neg (by decide), if_pos (by decide), if_pos (show [x0].getD 0 0 = 1 from hx1)])
          generalize letK 72 = K at HQL HE
          subst hx1
          go_wp2_with (first
            | (go_at_call 66; refine (HQL.out _).mono ?_; rintro e w3 ⟨rfl, hb3⟩; have HX3 := Lib.hid (HX.out.bel hb3); clear hb3)
            | ((with_reducible refine at_store 6 ?_); refine wpList_store_blk rfl _ _ _ rfl rfl g 0 _ Kv.no.cells K.cells rfl rfl HX3.out.k (by simp [Kv.len]) kv_size (Kv.one _) ?_; intro w9 hn9 hg9))
          go_meet
          rw [HE.out]
          exact HX3.out.put hn9 hg9
        · have HQL := Lib.hid (letterKey_any 70)
          rw [show (((70 : UInt8).toNat : Nat) : Int) = 70 from rfl] at HQL
          have HE : Hid (R = letK 70) := Lib.hid (by rw [HR.out]; unfold baseK; rw [if_neg (by decide), if_pos (by decide), if_pos (show [x0].getD 0 0 = 1 from hx1)])
          generalize letK 70 = K at HQL HE
          subst hx1
          go_wp2_with (first
            | (go_at_call 66; refine (HQL.out _).mono ?_; rintro e w3 ⟨rfl, hb3⟩; have HX3 := Lib.hid (HX.out.bel hb3); clear hb3)
            | ((with_reducible refine at_store 6 ?_); refine wpList_store_blk rfl _ _ _ rfl rfl g 0 _ Kv.no.cells K.cells rfl rfl HX3.out.k (by simp [Kv.len]) kv_size (Kv.one _) ?_; intro w9 hn9 hg9))
          go_meet
          rw [HE.out]
          exact HX3.out.put hn9 hg9
      · have HE : Hid (R = Kv.no) := Lib.hid (by rw [HR.out]; unfold baseK; rw [if_neg (by rcases h1 with rfl | rfl | rfl | rfl | rfl | rfl <;> decide), if_pos h1, if_neg (show ¬ [x0].getD 0 0 = 1 from hx1)])
        have hx2 : (x0 == 1) = false := by simpa using hx1
        clear hx1
        rcases h1 with rfl | rfl | rfl | rfl | rfl | rfl
        all_goals
          go_wp2_with (fail)
          go_meet
          rw [HE.out]
          exact HX.out
    by_cases h3 : f = 90
    · subst h3
      cases p with
      | nil =>
        have HE : Hid (R = kc 4) := Lib.hid (by rw [HR.out]; rfl)
        have hE1 : b.toList.isEmpty = true := by rw [HPB.out]; rfl
        have hE2 : b.toList = [] := HPB.out
        have k0 : w2.cell? ⟨g, 0, none⟩ = some (.int .i64 0) := HX.out.k.cell 0
        have kf := HX.out.k.frozen 0
        go_wp2_with (fail)
        go_meet
        rw [HE.out]
        exact HX.out.set0
      | cons y ys =>
        have HE : Hid (R = Kv.no) := Lib.hid (by rw [HR.out]; rfl)
        have hE1 : b.toList.isEmpty = false := by rw [HPB.out]; rfl
        have hE2 : ¬ b.toList = [] := by rw [HPB.out]; simp
        go_wp2_with (fail)
        go_meet
        rw [HE.out]
        exact HX.out
    by_cases h4 : f = 126
    · subst h4
      have HQL := Lib.hid (numberKey_any x0 hx.1 hx.2)
      have HE : Hid (R = numK x0) := Lib.hid (by rw [HR.out]; rfl)
      generalize numK x0 = K at HQL HE
      go_wp2_with (first
        | (go_at_call 77; refine (HQL.out _).mono ?_; rintro e w3 ⟨rfl, hb3⟩; have HX3 := Lib.hid (HX.out.bel hb3); clear hb3)
        | ((with_reducible refine at_store 6 ?_); refine wpList_store_blk rfl _ _ _ rfl rfl g 0 _ Kv.no.cells K.cells rfl rfl HX3.out.k (by simp [Kv.len]) kv_size (Kv.one _) ?_; intro w9 hn9 hg9))
      go_meet
      rw [HE.out]
      exact HX3.out.put hn9 hg9
    have HE := Lib.hid (seq_other (p := p) (L := [x0]) h1 h2 h3 h4)
    have HH : ∀ n : Nat, n < 256 → ¬ f = UInt8.ofNat n → ((f.toNat : Int) == (n : Int)) = false := by
      intro n hn hf
      simp
      exact fun e => hf ((u8_of f n hn).1 (by omega))
    have i80 : ((f.toNat : Int) == 80) = false := HH 80 (by omega) (fun e => h1 (.inl e))
    have i81 : ((f.toNat : Int) == 81) = false := HH 81 (by omega) (fun e => h1 (.inr (.inl e)))
    have i82 : ((f.toNat : Int) == 82) = false := HH 82 (by omega) (fun e => h1 (.inr (.inr (.inl e))))
    have i83 : ((f.toNat : Int) == 83) = false := HH 83 (by omega) (fun e => h1 (.inr (.inr (.inr e))))
    have i65 : ((f.toNat : Int) == 65) = false := HH 65 (by omega) (fun e => h2 (.inl e))
    have i66 : ((f.toNat : Int) == 66) = false := HH 66 (by omega) (fun e => h2 (.inr (.inl e)))
    have i67 : ((f.toNat : Int) == 67) = false := HH 67 (by omega) (fun e => h2 (.inr (.inr (.inl e))))
    have i68 : ((f.toNat : Int) == 68) = false := HH 68 (by omega) (fun e => h2 (.inr (.inr (.inr (.inl e)))))
    have i72 : ((f.toNat : Int) == 72) = false := HH 72 (by omega) (fun e => h2 (.inr (.inr (.inr (.inr (.inl e))))))
    have i70 : ((f.toNat : Int) == 70) = false := HH 70 (by omega) (fun e => h2 (.inr (.inr (.inr (.inr (.inr e))))))
    have i90 : ((f.toNat : Int) == 90) = false := HH 90 (by omega) (h3)
    have i126 : ((f.toNat : Int) == 126) = false := HH 126 (by omega) (h4)
    clear HH h1 h2 h3 h4
    go_wp2_with (fail)
    go_meet
    rw [HR.out, HE.out]
    exact HX.out
  case rest =>
    have HX2 := Lib.hid hcut
    clear HX c0 hcut
    generalize wc = w5 at HX2 ⊢
    go_wp2_with (first
      | ((with_reducible refine at_dst 54 ?_); refine wpList_load_mid rfl _ _ rfl g 0 rfl R.cells _ (kwhole HX2.out.k) Tryd.underlying40 rfl kv_size ?_)
      | ((with_reducible refine at_store 4 ?_); refine wpList_store_blk rfl _ _ _ rfl rfl w.heap.size 0 _ Kv.no.cells R.cells rfl rfl HX2.out.z (by simp [Kv.len]) kv_size (Kv.one _) ?_; intro w9 hn9 hg9))
    exact bodyPost_ret (kresults_c rfl rfl (kwhole hn9) Tryd.underlying40 rfl kv_size) rfl ⟨rfl, kfin HX2.out.b hg9⟩
set_option maxRecDepth 100000 in
set_option maxHeartbeats 8000000 in
theorem seq_two (p : List UInt8) (f : UInt8) (hp : p.length ≤ 100000) (x0 x1 : Int) (hL : numsK p = [x0, x1]) (hx : 0 ≤ x0 ∧ x0 ≤ 9999) (hy : 0 ≤ x1 ∧ x1 ≤ 9999) (w : World) :
    Calls Tryd.prog 65 #[.string ⟨p.toArray⟩, .int .u8 f.toNat] w fun e w' => e = .returned (modK (baseK p [x0, x1] f) x1).agg ∧ Below w.heap.size w w' := by
  obtain ⟨W0, HW0, HB0, HZ⟩ := kzero w
  have HQ := Lib.hid (numbers_any p hp W0)
  rw [hL] at HQ
  obtain ⟨b, hb⟩ : ∃ b : ByteArray, b = ⟨p.toArray⟩ := ⟨_, rfl⟩
  rw [← hb] at HQ ⊢
  have HPB := Lib.hid (show b.toList = p by rw [hb, Lib.toList_data])
  clear hL hb
  obtain ⟨R, hR⟩ : ∃ R, R = baseK p [x0, x1] f := ⟨_, rfl⟩
  rw [← hR]
  have HR := Lib.hid hR
  clear hR
  have HM := Lib.hid (modified_any R x1 hy.1 hy.2)
  generalize modK R x1 = M at HM ⊢
  go_enter Tryd.func65, Tryd.ntmps65
  go_upto_region 1 with fail
  rw [← HW0.out]
  clear HW0
  go_upto_block 0 with (first
    | (go_at_call 76; refine HQ.out.mono ?_; rintro e w1 ⟨A, n, c, rfl, hn, hS, hb1⟩; obtain rfl : n = 2 := hn; have HX := Lib.hid (SqS.new (HZ.out.below hb1 HZ.out.lt) hS (kstep HB0.out hb1)); clear hb1 hS))
  obtain ⟨bk, off, rfl, _, hcell⟩ := HX.out.s.open_ (by simp [i64w])
  generalize w1.alloc (.cells #[.int .i64 0, .string ⟨#[]⟩, .int .i64 0, .bool false, .bool false, .bool false] 40) = w2 at HX hcell ⊢
  have c0 : w2.cell? ⟨bk, off, none⟩ = some (.int .i64 x0) := hcell 0 _ rfl
  clear hcell
  generalize w1.heap.size = g at HX ⊢
  go_cut [] (fun wx => SqS wx w g (some ⟨bk, off, none⟩) [x0, x1] R)
  case first =>
    by_cases h1 : f = 80 ∨ f = 81 ∨ f = 82 ∨ f = 83
    · by_cases hx1 : x0 = 1
      · rcases h1 with rfl | rfl | rfl | rfl
        · have HQL := Lib.hid (letterKey_any 80)
          rw [show (((80 : UInt8).toNat : Nat) : Int) = 80 from rfl] at HQL
          have HE : Hid (R = letK 80) := Lib.hid (by rw [HR.out]; unfold baseK; rw [if_pos (by decide), if_pos (show [x0, x1].length = 2 ∧ [x0, x1].getD 0 0 = 1 from ⟨rfl, hx1⟩)])
          generalize letK 80 = K at HQL HE
          subst hx1
          go_wp2_with (first
            | (go_at_call 66; refine (HQL.out _).mono ?_; rintro e w3 ⟨rfl, hb3⟩; have HX3 := Lib.hid (HX.out.bel hb3); clear hb3)
            | ((with_reducible refine at_store 6 ?_); refine wpList_store_blk rfl _ _ _ rfl rfl g 0 _ Kv.no.cells K.cells rfl rfl HX3.out.k (by simp [Kv.len]) kv_size (Kv.one _) ?_; intro w9 hn9 hg9))
          go_meet
          rw [HE.out]
          exact HX3.out.put hn9 hg9
        · have HQL := Lib.hid (letterKey_any 81)
          rw [show (((81 : UInt8).toNat : Nat) : Int) = 81 from rfl] at HQL
          have HE : Hid (R = letK 81) := Lib.hid (by rw [HR.out]; unfold baseK; rw [if_pos (by decide), if_pos (show [x0, x1].length = 2 ∧ [x0, x1].getD 0 0 = 1 from ⟨rfl, hx1⟩)])
          generalize letK 81 = K at HQL HE
          subst hx1
          go_wp2_with (first
            | (go_at_call 66; refine (HQL.out _).mono ?_; rintro e w3 ⟨rfl, hb3⟩; have HX3 := Lib.hid (HX.out.bel hb3); clear hb3)
            | ((with_reducible refine at_store 6 ?_); refine wpList_store_blk rfl _ _ _ rfl rfl g 0 _ Kv.no.cells K.cells rfl rfl HX3.out.k (by simp [Kv.len]) kv_size (Kv.one _) ?_; intro w9 hn9 hg9))
          go_meet
          rw [HE.out]
          exact HX3.out.put hn9 hg9
        · have HQL := Lib.hid (letterKey_any 82)
          rw [show (((82 : UInt8).toNat : Nat) : Int) = 82 from rfl] at HQL
          have HE : Hid (R = letK 82) := Lib.hid (by rw [HR.out]; unfold baseK; rw [if_pos (by decide), if_pos (show [x0, x1].length = 2 ∧ [x0, x1].getD 0 0 = 1 from ⟨rfl, hx1⟩)])
          generalize letK 82 = K at HQL HE
          subst hx1
          go_wp2_with (first
            | (go_at_call 66; refine (HQL.out _).mono ?_; rintro e w3 ⟨rfl, hb3⟩; have HX3 := Lib.hid (HX.out.bel hb3); clear hb3)
            | ((with_reducible refine at_store 6 ?_); refine wpList_store_blk rfl _ _ _ rfl rfl g 0 _ Kv.no.cells K.cells rfl rfl HX3.out.k (by simp [Kv.len]) kv_size (Kv.one _) ?_; intro w9 hn9 hg9))
          go_meet
          rw [HE.out]
          exact HX3.out.put hn9 hg9
        · have HQL := Lib.hid (letterKey_any 83)
          rw [show (((83 : UInt8).toNat : Nat) : Int) = 83 from rfl] at HQL
          have HE : Hid (R = letK 83) := Lib.hid (by rw [HR.out]; unfold baseK; rw [if_pos (by decide), if_pos (show [x0, x1].length = 2 ∧ [x0, x1].getD 0 0 = 1 from ⟨rfl, hx1⟩)])
          generalize letK 83 = K at HQL HE
          subst hx1
          go_wp2_with (first
            | (go_at_call 66; refine (HQL.out _).mono ?_; rintro e w3 ⟨rfl, hb3⟩; have HX3 := Lib.hid (HX.out.bel hb3); clear hb3)
            | ((with_reducible refine at_store 6 ?_); refine wpList_store_blk rfl _ _ _ rfl rfl g 0 _ Kv.no.cells K.cells rfl rfl HX3.out.k (by simp [Kv.len]) kv_size (Kv.one _) ?_; intro w9 hn9 hg9))
          go_meet
          rw [HE.out]
          exact HX3.out.put hn9 hg9
      · have HE : Hid (R = Kv.no) := Lib.hid (by rw [HR.out]; unfold baseK; rw [if_pos h1, if_neg (show ¬ ([x0, x1].length = 2 ∧ [x0, x1].getD 0 0 = 1) from fun h => hx1 h.2)])
        have hx2 : (x0 == 1) = false := by simpa using hx1
        clear hx1
        rcases h1 with rfl | rfl | rfl | rfl
        all_goals
          go_wp2_with (fail)
          go_meet
          rw [HE.out]
          exact HX.out
    by_cases h2 : f = 65 ∨ f = 66 ∨ f = 67 ∨ f = 68 ∨ f = 72 ∨ f = 70
    · clear h1
      have h1 := h2
      clear h2
      by_cases hx1 : x0 = 1
      · rcases h1 with rfl | rfl | rfl | rfl | rfl | rfl
        · have HQL := Lib.hid (letterKey_any 65)
          rw [show (((65 : UInt8).toNat : Nat) : Int) = 65 from rfl] at HQL
          have HE : Hid (R = letK 65) := Lib.hid (by rw [HR.out]; unfold baseK; rw [if_neg (by decide), if_pos (by decide), if_pos (show [x0, x1].getD 0 0 = 1 from hx1)])
          generalize letK 65 = K at HQL HE
          subst hx1
          go_wp2_with (first
            | (go_at_call 66; refine (HQL.out _).mono ?_; rintro e w3 ⟨rfl, hb3⟩; have HX3 := Lib.hid (HX.out.bel hb3); clear hb3)
            | ((with_reducible refine at_store 6 ?_); refine wpList_store_blk rfl _ _ _ rfl rfl g 0 _ Kv.no.cells K.cells rfl rfl HX3.out.k (by simp [Kv.len]) kv_size (Kv.one _) ?_; intro w9 hn9 hg9))
          go_meet
          rw [HE.out]
          exact HX3.out.put hn9 hg9
        · have HQL := Lib.hid (letterKey_any 66)
          rw [show (((66 : UInt8).toNat : Nat) : Int) = 66 from rfl] at HQL
          have HE : Hid (R = letK 66) := Lib.hid (by rw [HR.out]; unfold baseK; rw [if_neg (by decide), if_pos (by decide), if_pos (show [x0, x1].getD 0 0 = 1 from hx1)])
          generalize letK 66 = K at HQL HE
          subst hx1
          go_wp2_with (first
            | (go_at_call 66; refine (HQL.out _).mono ?_; rintro e w3 ⟨rfl, hb3⟩; have HX3 := Lib.hid (HX.out.bel hb3); clear hb3)
            | ((with_reducible refine at_store 6 ?_); refine wpList_store_blk rfl _ _ _ rfl rfl g 0 _ Kv.no.cells K.cells rfl rfl HX3.out.k (by simp [Kv.len]) kv_size (Kv.one _) ?_; intro w9 hn9 hg9))
          go_meet
          rw [HE.out]
          exact HX3.out.put hn9 hg9
        · have HQL := Lib.hid (letterKey_any 67)
          rw [show (((67 : UInt8).toNat : Nat) : Int) = 67 from rfl] at HQL
          have HE : Hid (R = letK 67) := Lib.hid (by rw [HR.out]; unfold baseK; rw [if_neg (by decide), if_pos (by decide), if_pos (show [x0, x1].getD 0 0 = 1 from hx1)])
          generalize letK 67 = K at HQL HE
          subst hx1
          go_wp2_with (first
            | (go_at_call 66; refine (HQL.out _).mono ?_; rintro e w3 ⟨rfl, hb3⟩; have HX3 := Lib.hid (HX.out.bel hb3); clear hb3)
            | ((with_reducible refine at_store 6 ?_); refine wpList_store_blk rfl _ _ _ rfl rfl g 0 _ Kv.no.cells K.cells rfl rfl HX3.out.k (by simp [Kv.len]) kv_size (Kv.one _) ?_; intro w9 hn9 hg9))
          go_meet
          rw [HE.out]
          exact HX3.out.put hn9 hg9
        · have HQL := Lib.hid (letterKey_any 68)
          rw [show (((68 : UInt8).toNat : Nat) : Int) = 68 from rfl] at HQL
          have HE : Hid (R = letK 68) := Lib.hid (by rw [HR.out]; unfold baseK; rw [if_neg (by decide), if_pos (by decide), if_pos (show [x0, x1].getD 0 0 = 1 from hx1)])
          generalize letK 68 = K at HQL HE
          subst hx1
          go_wp2_with (first
            | (go_at_call 66; refine (HQL.out _).mono ?_; rintro e w3 ⟨rfl, hb3⟩; have HX3 := Lib.hid (HX.out.bel hb3); clear hb3)
            | ((with_reducible refine at_store 6 ?_); refine wpList_store_blk rfl _ _ _ rfl rfl g 0 _ Kv.no.cells K.cells rfl rfl HX3.out.k (by simp [Kv.len]) kv_size (Kv.one _) ?_; intro w9 hn9 hg9))
          go_meet
          rw [HE.out]
          exact HX3.out.put hn9 hg9
        · have HQL := Lib.hid (letterKey_any 72)
          rw [show (((72 : UInt8).toNat : Nat) : Int) = 72 from rfl] at HQL
          have HE : Hid (R = letK 72) := Lib.hid (by rw [HR.out]; unfold baseK; rw [if_neg (by decide), if_pos (by decide), if_pos (show [x0, x1].getD 0 0 = 1 from hx1)])
          generalize letK 72 = K at HQL HE
          subst hx1
          go_wp2_with (first
            | (go_at_call 66; refine (HQL.out _).mono ?_; rintro e w3 ⟨rfl, hb3⟩; have HX3 := Lib.hid (HX.out.bel hb3); clear hb3)
            | ((with_reducible refine at_store 6 ?_); refine wpList_store_blk rfl _ _ _ rfl rfl g 0 _ Kv.no.cells K.cells rfl rfl HX3.out.k (by simp [Kv.len]) kv_size (Kv.one _) ?_; intro w9 hn9 hg9))
          go_meet
          rw [HE.out]
          exact HX3.out.put hn9 hg9
        · have HQL := Lib.hid (letterKey_any 70)
          rw [show (((70 : UInt8).toNat : Nat) : Int) = 70 from rfl] at HQL
          have HE : Hid (R = letK 70) := Lib.hid (by rw [HR.out]; unfold baseK; rw [if_neg (by decide), if_pos (by decide), if_pos (show [x0, x1].getD 0 0 = 1 from hx1)])
          generalize letK 70 = K at HQL HE
          subst hx1
          go_wp2_with (first
            | (go_at_call 66; refine (HQL.out _).mono ?_; rintro e w3 ⟨rfl, hb3⟩; have HX3 := Lib.hid (HX.out.bel hb3); clear hb3)
            | ((with_reducible refine at_store 6 ?_); refine wpList_store_blk rfl _ _ _ rfl rfl g 0 _ Kv.no.cells K.cells rfl rfl HX3.out.k (by simp [Kv.len]) kv_size (Kv.one _) ?_; intro w9 hn9 hg9))
          go_meet
          rw [HE.out]
          exact HX3.out.put hn9 hg9
      · have HE : Hid (R = Kv.no) := Lib.hid (by rw [HR.out]; unfold baseK; rw [if_neg (by rcases h1 with rfl | rfl | rfl | rfl | rfl | rfl <;> decide), if_pos h1, if_neg (show ¬ [x0, x1].getD 0 0 = 1 from hx1)])
        have hx2 : (x0 == 1) = false := by simpa using hx1
        clear hx1
        rcases h1 with rfl | rfl | rfl | rfl | rfl | rfl
        all_goals
          go_wp2_with (fail)
          go_meet
          rw [HE.out]
          exact HX.out
    by_cases h3 : f = 90
    · subst h3
      cases p with
      | nil =>
        have HE : Hid (R = kc 4) := Lib.hid (by rw [HR.out]; rfl)
        have hE1 : b.toList.isEmpty = true := by rw [HPB.out]; rfl
        have hE2 : b.toList = [] := HPB.out
        have k0 : w2.cell? ⟨g, 0, none⟩ = some (.int .i64 0) := HX.out.k.cell 0
        have kf := HX.out.k.frozen 0
        go_wp2_with (fail)
        go_meet
        rw [HE.out]
        exact HX.out.set0
      | cons y ys =>
        have HE : Hid (R = Kv.no) := Lib.hid (by rw [HR.out]; rfl)
        have hE1 : b.toList.isEmpty = false := by rw [HPB.out]; rfl
        have hE2 : ¬ b.toList = [] := by rw [HPB.out]; simp
        go_wp2_with (fail)
        go_meet
        rw [HE.out]
        exact HX.out
    by_cases h4 : f = 126
    · subst h4
      have HQL := Lib.hid (numberKey_any x0 hx.1 hx.2)
      have HE : Hid (R = numK x0) := Lib.hid (by rw [HR.out]; rfl)
      generalize numK x0 = K at HQL HE
      go_wp2_with (first
        | (go_at_call 77; refine (HQL.out _).mono ?_; rintro e w3 ⟨rfl, hb3⟩; have HX3 := Lib.hid (HX.out.bel hb3); clear hb3)
        | ((with_reducible refine at_store 6 ?_); refine wpList_store_blk rfl _ _ _ rfl rfl g 0 _ Kv.no.cells K.cells rfl rfl HX3.out.k (by simp [Kv.len]) kv_size (Kv.one _) ?_; intro w9 hn9 hg9))
      go_meet
      rw [HE.out]
      exact HX3.out.put hn9 hg9
    have HE := Lib.hid (seq_other (p := p) (L := [x0, x1]) h1 h2 h3 h4)
    have HH : ∀ n : Nat, n < 256 → ¬ f = UInt8.ofNat n → ((f.toNat : Int) == (n : Int)) = false := by
      intro n hn hf
      simp
      exact fun e => hf ((u8_of f n hn).1 (by omega))
    have i80 : ((f.toNat : Int) == 80) = false := HH 80 (by omega) (fun e => h1 (.inl e))
    have i81 : ((f.toNat : Int) == 81) = false := HH 81 (by omega) (fun e => h1 (.inr (.inl e)))
    have i82 : ((f.toNat : Int) == 82) = false := HH 82 (by omega) (fun e => h1 (.inr (.inr (.inl e))))
    have i83 : ((f.toNat : Int) == 83) = false := HH 83 (by omega) (fun e => h1 (.inr (.inr (.inr e))))
    have i65 : ((f.toNat : Int) == 65) = false := HH 65 (by omega) (fun e => h2 (.inl e))
    have i66 : ((f.toNat : Int) == 66) = false := HH 66 (by omega) (fun e => h2 (.inr (.inl e)))
    have i67 : ((f.toNat : Int) == 67) = false := HH 67 (by omega) (fun e => h2 (.inr (.inr (.inl e))))
    have i68 : ((f.toNat : Int) == 68) = false := HH 68 (by omega) (fun e => h2 (.inr (.inr (.inr (.inl e)))))
    have i72 : ((f.toNat : Int) == 72) = false := HH 72 (by omega) (fun e => h2 (.inr (.inr (.inr (.inr (.inl e))))))
    have i70 : ((f.toNat : Int) == 70) = false := HH 70 (by omega) (fun e => h2 (.inr (.inr (.inr (.inr (.inr e))))))
    have i90 : ((f.toNat : Int) == 90) = false := HH 90 (by omega) (h3)
    have i126 : ((f.toNat : Int) == 126) = false := HH 126 (by omega) (h4)
    clear HH h1 h2 h3 h4
    go_wp2_with (fail)
    go_meet
    rw [HR.out, HE.out]
    exact HX.out
  case rest =>
    have HX2 := Lib.hid hcut
    clear HX c0 hcut
    generalize wc = w5 at HX2 ⊢
    have c1 : w5.cell? ⟨bk, off + 1, none⟩ = some (.int .i64 x1) := by
      obtain ⟨b', off', eb, _, hc⟩ := HX2.out.s.open_ (by simp [i64w])
      injection eb with eb
      injection eb with e1 e2
      subst e1 e2
      exact hc 1 _ rfl
    have k0 := cell_regrown (show w5.cell? ⟨g, 0, none⟩ = some (.int .i64 R.c) from HX2.out.k.cell 0)
    have k1 := cell_regrown (show w5.cell? ⟨g, 1, none⟩ = some (.string ⟨R.s.toArray⟩) from HX2.out.k.cell 1)
    have k2 := cell_regrown (show w5.cell? ⟨g, 2, none⟩ = some (.int .i64 R.n) from HX2.out.k.cell 2)
    have k3 := cell_regrown (show w5.cell? ⟨g, 3, none⟩ = some (.bool R.a) from HX2.out.k.cell 3)
    have k4 := cell_regrown (show w5.cell? ⟨g, 4, none⟩ = some (.bool R.h) from HX2.out.k.cell 4)
    have k5 := cell_regrown (show w5.cell? ⟨g, 5, none⟩ = some (.bool R.t) from HX2.out.k.cell 5)
    have l1 := cell_regrown c1
    clear c1
    go_wp2_with (fail)
    refine wp_region_below_tail 4 (by kernel_rfl) (by kernel_rfl) ?_
    simp only [List.take_succ_cons, List.take_zero, List.drop_succ_cons, List.drop_zero]
    repeat (first
      | go_big_quiet_step (fail)
      | quiet_step (fail))
    refine wpQuiet_nil ?_
    intro _ hw'
    obtain ⟨⟨dq, osq⟩, hw''⟩ := hw'
    subst hw''
    have HX3 := Lib.hid (HX2.out.bel (below_regrown w5 dq osq))
    clear k0 k1 k2 k3 k4 k5 l1
    generalize grow (redrawn w5 dq) osq = w6 at *
    go_wp2_with (first
      | (go_at_call 78; refine (HM.out _).mono ?_; rintro e w7 ⟨rfl, hb7⟩; have HX4 := Lib.hid (HX3.out.bel hb7); clear hb7)
      | ((with_reducible refine at_store 4 ?_); refine wpList_store_blk rfl _ _ _ rfl rfl w.heap.size 0 _ Kv.no.cells M.cells rfl rfl HX4.out.z (by simp [Kv.len]) kv_size (Kv.one _) ?_; intro w9 hn9 hg9))
    exact bodyPost_ret (kresults_c rfl rfl (kwhole hn9) Tryd.underlying40 rfl kv_size) rfl ⟨rfl, kfin HX4.out.b hg9⟩
theorem sequence_any (p : List UInt8) (f : UInt8) (hp : p.length ≤ 100000) (w : World) :
    Calls Tryd.prog 65 #[.string ⟨p.toArray⟩, .int .u8 f.toNat] w fun e w' => e = .returned (seqK p f).agg ∧ Below w.heap.size w w' := by
  have hb := nums_bd p
  unfold seqK
  cases hL : numsK p with
  | nil => simpa using seq_none p f hp hL w
  | cons x0 t =>
    rw [hL] at hb
    cases t with
    | nil => simpa using seq_one p f hp x0 hL (hb.1 x0 (by simp)) w
    | cons x1 u =>
      cases u with
      | nil => simpa using seq_two p f hp x0 x1 hL (hb.1 x0 (by simp)) (hb.1 x1 (by simp)) w
      | cons _ _ => exact absurd hb.2 (by simp)
end Go.Proofs.YteolafeeggjblaaDoor
