/-
  Walks: the methods of a map that nobody made; few.
-/
import Derived.Test.YthlhfbchilfgcaaDoorKmAct
namespace Go.Proofs.YthlhfbchilfgcaaDoor
open Go.RowKit
set_option linter.unusedVariables false
set_option linter.unusedSimpArgs false

set_option maxRecDepth 100000 in
set_option maxHeartbeats 1000000 in
theorem bind_not {w : World} {p : Option Addr} (h : MNo w p) (k : Kv) (a : Int) :
    Calls Tryd.prog 26 #[.pointer p, .agg #[.int .i64 k.c, .string ⟨k.s.toArray⟩, .int .i64 k.n, .bool k.a, .bool k.h, .bool k.t], .int .i64 a] w fun e w' => e = .returned (.int .i64 4) ∧ Below w.heap.size w w' := by
  have H := Lib.hid h
  clear h
  go_enter Tryd.func26, Tryd.ntmps26
  go_wp2_with (go_at_call 51; refine (made_not (H.out.bel (kbel w _))).mono ?_; rintro e w' ⟨rfl, rfl⟩)
  go_ret
  exact ⟨rfl, kbel _ _⟩
set_option maxRecDepth 100000 in
set_option maxHeartbeats 1000000 in
theorem drop_not {w : World} {p : Option Addr} (h : MNo w p) (k : Kv) :
    Calls Tryd.prog 23 #[.pointer p, .agg #[.int .i64 k.c, .string ⟨k.s.toArray⟩, .int .i64 k.n, .bool k.a, .bool k.h, .bool k.t]] w fun e w' => e = .returned (.bool false) ∧ Below w.heap.size w w' := by
  have H := Lib.hid h
  clear h
  go_enter Tryd.func23, Tryd.ntmps23
  go_wp2_with (go_at_call 28; refine (act_not (H.out.bel (kbel w _)) k).mono ?_; rintro e w' ⟨rfl, hb⟩; have HB := Lib.hid hb; clear hb)
  go_ret
  exact ⟨rfl, (kbel w _).trans (HB.out.mono (by simp))⟩
set_option maxRecDepth 100000 in
set_option maxHeartbeats 1000000 in
theorem len_not {w : World} {p : Option Addr} (h : MNo w p) :
    Calls Tryd.prog 30 #[.pointer p] w fun e w' => e = .returned (.int .i64 0) ∧ w = w' := by
  have H := Lib.hid h
  clear h
  go_enter Tryd.func30, Tryd.ntmps30
  go_wp2_with (go_at_call 51; refine (made_not H.out).mono ?_; rintro e w' ⟨rfl, rfl⟩)
  go_ret
  exact ⟨rfl, rfl⟩
set_option maxRecDepth 100000 in
set_option maxHeartbeats 1000000 in
theorem fork_not {w : World} {p : Option Addr} (h : MNo w p) :
    Calls Tryd.prog 25 #[.pointer p] w fun e w' => e = .returned (.pointer none) ∧ w = w' := by
  have H := Lib.hid h
  clear h
  go_enter Tryd.func25, Tryd.ntmps25
  go_wp2_with (go_at_call 51; refine (made_not H.out).mono ?_; rintro e w' ⟨rfl, rfl⟩)
  go_ret
  exact ⟨rfl, rfl⟩
set_option maxRecDepth 100000 in
set_option maxHeartbeats 1000000 in
theorem mall_any (p : Option Addr) (w : World) :
    Calls Tryd.prog 53 #[.pointer p] w fun e w' => e = .returned (.func (.func 63) #[] #[.pointer (some ⟨w.heap.size, 0, none⟩)]) ∧ w' = w.alloc (.cells #[.pointer p] 36) := by
  go_enter Tryd.func53, Tryd.ntmps53
  go_wp2
  go_ret
  exact ⟨rfl, rfl⟩
/-- a key with not more bytes than are looked at -/
def fewK (k : Kv) : Kv := { k with s := k.s.take 40 }
theorem kwhole {w : World} {g : Nat} {t : TypeId} {cs : List Value} (h : Blk w g t cs) : w.rangeAt g 0 cs := h.range 0 cs (fun j v hv => by simpa using hv)
theorem kgetD_eq {tmps : Array Value} {a : Nat} {v : Value} (h : tmps.getD a undef = v) : tmps[a]?.getD undef = v := by simpa using h
theorem kresults_c {fn : Func} {tmps : Array Value} {a t : Nat} {ad : Nat} {cs : List Value} {w : World} {d : TypeDesc} (hf : fn.results = #[.cell a t]) (ha : tmps.getD a undef = .pointer (some ⟨ad, 0, none⟩))
    (hc : w.rangeAt ad 0 cs) (hu : Tryd.prog.underlying t = some d) (hd : d.isRow = true) (hi : (Tryd.prog.info? t).map (·.size) = some cs.length) : (results fn tmps).run Tryd.prog w = .ok (.agg cs.toArray) w := by
  have hl := run_loadVar_mid (P := Tryd.prog) w ad 0 t cs d hc hu hd hi
  have ha' := kgetD_eq ha
  unfold results
  simp [hf, ha', asAddr, hl]
set_option maxRecDepth 100000 in
set_option maxHeartbeats 2000000 in
theorem few_any (k : Kv) (w : World) :
    Calls Tryd.prog 7 #[.agg #[.int .i64 k.c, .string ⟨k.s.toArray⟩, .int .i64 k.n, .bool k.a, .bool k.h, .bool k.t]] w fun e w' => e = .returned (.agg #[.int .i64 (fewK k).c, .string ⟨(fewK k).s.toArray⟩, .int .i64 (fewK k).n, .bool (fewK k).a, .bool (fewK k).h, .bool (fewK k).t]) ∧ Below w.heap.size w w' := by
  obtain ⟨q, hq⟩ : ∃ q : ByteArray, q = ⟨k.s.toArray⟩ := ⟨_, rfl⟩
  have hsz : q.size = k.s.length := by rw [hq]; simp [ByteArray.size]
  have HX := Lib.hid (show q.extract 0 40 = ⟨(k.s.take 40).toArray⟩ by rw [hq]; apply ByteArray.ext; simp [ByteArray.data_extract])
  have HQ := Lib.hid hq
  rw [← hq]
  clear hq
  by_cases h : 40 < k.s.length
  · have hi : 40 < (q.size : Int) := by omega
    have hi2 : (40 : Int) ≤ (q.size : Int) := by omega
    clear hsz
    go_enter Tryd.func7, Tryd.ntmps7
    go_wp2_with (fail)
    have hb := Blk.new (w.alloc (.cells #[.int .i64 k.c, .string (q.extract 0 40), .int .i64 k.n, .bool k.a, .bool k.h, .bool k.t] 24)) 24 [.int .i64 k.c, .string (q.extract 0 40), .int .i64 k.n, .bool k.a, .bool k.h, .bool k.t]
    rw [World.size_alloc] at hb
    exact bodyPost_ret (kresults_c rfl rfl (kwhole hb) Tryd.underlying24 rfl kv_size) rfl ⟨by rw [HX.out]; rfl, (kbel w _).trans ((kbel _ _).mono (by simp))⟩
  · have hi : ¬ 40 < (q.size : Int) := by omega
    have hE : fewK k = k := by unfold fewK; rw [List.take_of_length_le (by omega)]
    rw [hE]
    clear hsz HX
    go_enter Tryd.func7, Tryd.ntmps7
    go_wp2_with (fail)
    have hb := Blk.new (w.alloc (.cells #[.int .i64 k.c, .string q, .int .i64 k.n, .bool k.a, .bool k.h, .bool k.t] 24)) 24 [.int .i64 k.c, .string q, .int .i64 k.n, .bool k.a, .bool k.h, .bool k.t]
    rw [World.size_alloc] at hb
    exact bodyPost_ret (kresults_c rfl rfl (kwhole hb) Tryd.underlying24 rfl kv_size) rfl ⟨by rw [HQ.out], (kbel w _).trans ((kbel _ _).mono (by simp))⟩
end Go.Proofs.YthlhfbchilfgcaaDoor
