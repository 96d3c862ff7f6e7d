/-
  Walks: the reference's base, Name.
-/
import Derived.Test.YteolafeeggjblaaDoorKnName
namespace Go.Proofs.YteolafeeggjblaaDoor
open Go.RowKit Go.Sort
set_option linter.unusedVariables false
set_option linter.unusedSimpArgs false

theorem kbel2 (w : World) (o o' : Obj) : Below w.heap.size w ((w.alloc o).alloc o') := (kbel w o).alloc (by simp) _
theorem kbel3 (w : World) (o o' o'' : Obj) : Below w.heap.size w (((w.alloc o).alloc o').alloc o'') := (kbel2 w o o').alloc (by simp; omega) _
set_option maxRecDepth 100000 in
set_option maxHeartbeats 4000000 in
theorem rbase_1 (b : ByteArray) (a h t : Bool) (w : World) :
    Calls Tryd.prog 29 #[.agg #[.int .i64 18, .string b, .int .i64 1, .bool a, .bool h, .bool t]] w fun e w' => e = .returned (.string ⟨#[102, 49]⟩) ∧ Below w.heap.size w w' := by
  have hcv : Sem.run Tryd.prog (Go.convert 22 9 (.slice (some ⟨w.heap.size + 1 + 1, 0, none⟩) 1 1)) (((w.alloc (.cells #[.int .i64 18, .string b, .int .i64 1, .bool a, .bool h, .bool t] 40)).alloc (.cells #[.string ⟨#[]⟩, .string ⟨#[116, 101, 120, 116]⟩, .string ⟨#[101, 110, 116, 101, 114]⟩, .string ⟨#[116, 97, 98]⟩, .string ⟨#[98, 97, 99, 107, 116, 97, 98]⟩, .string ⟨#[101, 115, 99, 97, 112, 101]⟩, .string ⟨#[98, 97, 99, 107, 115, 112, 97, 99, 101]⟩, .string ⟨#[100, 101, 108, 101, 116, 101]⟩, .string ⟨#[117, 112]⟩, .string ⟨#[100, 111, 119, 110]⟩, .string ⟨#[108, 101, 102, 116]⟩, .string ⟨#[114, 105, 103, 104, 116]⟩, .string ⟨#[104, 111, 109, 101]⟩, .string ⟨#[101, 110, 100]⟩, .string ⟨#[112, 97, 103, 101, 117, 112]⟩, .string ⟨#[112, 97, 103, 101, 100, 111, 119, 110]⟩, .string ⟨#[112, 97, 115, 116, 101]⟩] 9)).alloc (.cells #[.int .u8 49] 5)) = .ok (.string ⟨#[49]⟩) (((w.alloc (.cells #[.int .i64 18, .string b, .int .i64 1, .bool a, .bool h, .bool t] 40)).alloc (.cells #[.string ⟨#[]⟩, .string ⟨#[116, 101, 120, 116]⟩, .string ⟨#[101, 110, 116, 101, 114]⟩, .string ⟨#[116, 97, 98]⟩, .string ⟨#[98, 97, 99, 107, 116, 97, 98]⟩, .string ⟨#[101, 115, 99, 97, 112, 101]⟩, .string ⟨#[98, 97, 99, 107, 115, 112, 97, 99, 101]⟩, .string ⟨#[100, 101, 108, 101, 116, 101]⟩, .string ⟨#[117, 112]⟩, .string ⟨#[100, 111, 119, 110]⟩, .string ⟨#[108, 101, 102, 116]⟩, .string ⟨#[114, 105, 103, 104, 116]⟩, .string ⟨#[104, 111, 109, 101]⟩, .string ⟨#[101, 110, 100]⟩, .string ⟨#[112, 97, 103, 101, 117, 112]⟩, .string ⟨#[112, 97, 103, 101, 100, 111, 119, 110]⟩, .string ⟨#[112, 97, 115, 116, 101]⟩] 9)).alloc (.cells #[.int .u8 49] 5)) := by
    have := Sl.new ((w.alloc (.cells #[.int .i64 18, .string b, .int .i64 1, .bool a, .bool h, .bool t] 40)).alloc (.cells #[.string ⟨#[]⟩, .string ⟨#[116, 101, 120, 116]⟩, .string ⟨#[101, 110, 116, 101, 114]⟩, .string ⟨#[116, 97, 98]⟩, .string ⟨#[98, 97, 99, 107, 116, 97, 98]⟩, .string ⟨#[101, 115, 99, 97, 112, 101]⟩, .string ⟨#[98, 97, 99, 107, 115, 112, 97, 99, 101]⟩, .string ⟨#[100, 101, 108, 101, 116, 101]⟩, .string ⟨#[117, 112]⟩, .string ⟨#[100, 111, 119, 110]⟩, .string ⟨#[108, 101, 102, 116]⟩, .string ⟨#[114, 105, 103, 104, 116]⟩, .string ⟨#[104, 111, 109, 101]⟩, .string ⟨#[101, 110, 100]⟩, .string ⟨#[112, 97, 103, 101, 117, 112]⟩, .string ⟨#[112, 97, 103, 101, 100, 111, 119, 110]⟩, .string ⟨#[112, 97, 115, 116, 101]⟩] 9)) #[.int .u8 49] 5
    have hz : ((w.alloc (.cells #[.int .i64 18, .string b, .int .i64 1, .bool a, .bool h, .bool t] 40)).alloc (.cells #[.string ⟨#[]⟩, .string ⟨#[116, 101, 120, 116]⟩, .string ⟨#[101, 110, 116, 101, 114]⟩, .string ⟨#[116, 97, 98]⟩, .string ⟨#[98, 97, 99, 107, 116, 97, 98]⟩, .string ⟨#[101, 115, 99, 97, 112, 101]⟩, .string ⟨#[98, 97, 99, 107, 115, 112, 97, 99, 101]⟩, .string ⟨#[100, 101, 108, 101, 116, 101]⟩, .string ⟨#[117, 112]⟩, .string ⟨#[100, 111, 119, 110]⟩, .string ⟨#[108, 101, 102, 116]⟩, .string ⟨#[114, 105, 103, 104, 116]⟩, .string ⟨#[104, 111, 109, 101]⟩, .string ⟨#[101, 110, 100]⟩, .string ⟨#[112, 97, 103, 101, 117, 112]⟩, .string ⟨#[112, 97, 103, 101, 100, 111, 119, 110]⟩, .string ⟨#[112, 97, 115, 116, 101]⟩] 9)).heap.size = w.heap.size + 1 + 1 := by simp
    rw [hz] at this
    exact run_str_sl _ _ _ 1 1 [49] this rfl
  go_enter Tryd.func29, Tryd.ntmps29
  go_wp2_with (fail)
  go_ret
  exact ⟨rfl, kbel3 _ _ _ _⟩
set_option maxRecDepth 100000 in
set_option maxHeartbeats 4000000 in
theorem rbase_2 (b : ByteArray) (a h t : Bool) (w : World) :
    Calls Tryd.prog 29 #[.agg #[.int .i64 18, .string b, .int .i64 2, .bool a, .bool h, .bool t]] w fun e w' => e = .returned (.string ⟨#[102, 50]⟩) ∧ Below w.heap.size w w' := by
  have hcv : Sem.run Tryd.prog (Go.convert 22 9 (.slice (some ⟨w.heap.size + 1 + 1, 0, none⟩) 1 1)) (((w.alloc (.cells #[.int .i64 18, .string b, .int .i64 2, .bool a, .bool h, .bool t] 40)).alloc (.cells #[.string ⟨#[]⟩, .string ⟨#[116, 101, 120, 116]⟩, .string ⟨#[101, 110, 116, 101, 114]⟩, .string ⟨#[116, 97, 98]⟩, .string ⟨#[98, 97, 99, 107, 116, 97, 98]⟩, .string ⟨#[101, 115, 99, 97, 112, 101]⟩, .string ⟨#[98, 97, 99, 107, 115, 112, 97, 99, 101]⟩, .string ⟨#[100, 101, 108, 101, 116, 101]⟩, .string ⟨#[117, 112]⟩, .string ⟨#[100, 111, 119, 110]⟩, .string ⟨#[108, 101, 102, 116]⟩, .string ⟨#[114, 105, 103, 104, 116]⟩, .string ⟨#[104, 111, 109, 101]⟩, .string ⟨#[101, 110, 100]⟩, .string ⟨#[112, 97, 103, 101, 117, 112]⟩, .string ⟨#[112, 97, 103, 101, 100, 111, 119, 110]⟩, .string ⟨#[112, 97, 115, 116, 101]⟩] 9)).alloc (.cells #[.int .u8 50] 5)) = .ok (.string ⟨#[50]⟩) (((w.alloc (.cells #[.int .i64 18, .string b, .int .i64 2, .bool a, .bool h, .bool t] 40)).alloc (.cells #[.string ⟨#[]⟩, .string ⟨#[116, 101, 120, 116]⟩, .string ⟨#[101, 110, 116, 101, 114]⟩, .string ⟨#[116, 97, 98]⟩, .string ⟨#[98, 97, 99, 107, 116, 97, 98]⟩, .string ⟨#[101, 115, 99, 97, 112, 101]⟩, .string ⟨#[98, 97, 99, 107, 115, 112, 97, 99, 101]⟩, .string ⟨#[100, 101, 108, 101, 116, 101]⟩, .string ⟨#[117, 112]⟩, .string ⟨#[100, 111, 119, 110]⟩, .string ⟨#[108, 101, 102, 116]⟩, .string ⟨#[114, 105, 103, 104, 116]⟩, .string ⟨#[104, 111, 109, 101]⟩, .string ⟨#[101, 110, 100]⟩, .string ⟨#[112, 97, 103, 101, 117, 112]⟩, .string ⟨#[112, 97, 103, 101, 100, 111, 119, 110]⟩, .string ⟨#[112, 97, 115, 116, 101]⟩] 9)).alloc (.cells #[.int .u8 50] 5)) := by
    have := Sl.new ((w.alloc (.cells #[.int .i64 18, .string b, .int .i64 2, .bool a, .bool h, .bool t] 40)).alloc (.cells #[.string ⟨#[]⟩, .string ⟨#[116, 101, 120, 116]⟩, .string ⟨#[101, 110, 116, 101, 114]⟩, .string ⟨#[116, 97, 98]⟩, .string ⟨#[98, 97, 99, 107, 116, 97, 98]⟩, .string ⟨#[101, 115, 99, 97, 112, 101]⟩, .string ⟨#[98, 97, 99, 107, 115, 112, 97, 99, 101]⟩, .string ⟨#[100, 101, 108, 101, 116, 101]⟩, .string ⟨#[117, 112]⟩, .string ⟨#[100, 111, 119, 110]⟩, .string ⟨#[108, 101, 102, 116]⟩, .string ⟨#[114, 105, 103, 104, 116]⟩, .string ⟨#[104, 111, 109, 101]⟩, .string ⟨#[101, 110, 100]⟩, .string ⟨#[112, 97, 103, 101, 117, 112]⟩, .string ⟨#[112, 97, 103, 101, 100, 111, 119, 110]⟩, .string ⟨#[112, 97, 115, 116, 101]⟩] 9)) #[.int .u8 50] 5
    have hz : ((w.alloc (.cells #[.int .i64 18, .string b, .int .i64 2, .bool a, .bool h, .bool t] 40)).alloc (.cells #[.string ⟨#[]⟩, .string ⟨#[116, 101, 120, 116]⟩, .string ⟨#[101, 110, 116, 101, 114]⟩, .string ⟨#[116, 97, 98]⟩, .string ⟨#[98, 97, 99, 107, 116, 97, 98]⟩, .string ⟨#[101, 115, 99, 97, 112, 101]⟩, .string ⟨#[98, 97, 99, 107, 115, 112, 97, 99, 101]⟩, .string ⟨#[100, 101, 108, 101, 116, 101]⟩, .string ⟨#[117, 112]⟩, .string ⟨#[100, 111, 119, 110]⟩, .string ⟨#[108, 101, 102, 116]⟩, .string ⟨#[114, 105, 103, 104, 116]⟩, .string ⟨#[104, 111, 109, 101]⟩, .string ⟨#[101, 110, 100]⟩, .string ⟨#[112, 97, 103, 101, 117, 112]⟩, .string ⟨#[112, 97, 103, 101, 100, 111, 119, 110]⟩, .string ⟨#[112, 97, 115, 116, 101]⟩] 9)).heap.size = w.heap.size + 1 + 1 := by simp
    rw [hz] at this
    exact run_str_sl _ _ _ 1 1 [50] this rfl
  go_enter Tryd.func29, Tryd.ntmps29
  go_wp2_with (fail)
  go_ret
  exact ⟨rfl, kbel3 _ _ _ _⟩
set_option maxRecDepth 100000 in
set_option maxHeartbeats 4000000 in
theorem rbase_3 (b : ByteArray) (a h t : Bool) (w : World) :
    Calls Tryd.prog 29 #[.agg #[.int .i64 18, .string b, .int .i64 3, .bool a, .bool h, .bool t]] w fun e w' => e = .returned (.string ⟨#[102, 51]⟩) ∧ Below w.heap.size w w' := by
  have hcv : Sem.run Tryd.prog (Go.convert 22 9 (.slice (some ⟨w.heap.size + 1 + 1, 0, none⟩) 1 1)) (((w.alloc (.cells #[.int .i64 18, .string b, .int .i64 3, .bool a, .bool h, .bool t] 40)).alloc (.cells #[.string ⟨#[]⟩, .string ⟨#[116, 101, 120, 116]⟩, .string ⟨#[101, 110, 116, 101, 114]⟩, .string ⟨#[116, 97, 98]⟩, .string ⟨#[98, 97, 99, 107, 116, 97, 98]⟩, .string ⟨#[101, 115, 99, 97, 112, 101]⟩, .string ⟨#[98, 97, 99, 107, 115, 112, 97, 99, 101]⟩, .string ⟨#[100, 101, 108, 101, 116, 101]⟩, .string ⟨#[117, 112]⟩, .string ⟨#[100, 111, 119, 110]⟩, .string ⟨#[108, 101, 102, 116]⟩, .string ⟨#[114, 105, 103, 104, 116]⟩, .string ⟨#[104, 111, 109, 101]⟩, .string ⟨#[101, 110, 100]⟩, .string ⟨#[112, 97, 103, 101, 117, 112]⟩, .string ⟨#[112, 97, 103, 101, 100, 111, 119, 110]⟩, .string ⟨#[112, 97, 115, 116, 101]⟩] 9)).alloc (.cells #[.int .u8 51] 5)) = .ok (.string ⟨#[51]⟩) (((w.alloc (.cells #[.int .i64 18, .string b, .int .i64 3, .bool a, .bool h, .bool t] 40)).alloc (.cells #[.string ⟨#[]⟩, .string ⟨#[116, 101, 120, 116]⟩, .string ⟨#[101, 110, 116, 101, 114]⟩, .string ⟨#[116, 97, 98]⟩, .string ⟨#[98, 97, 99, 107, 116, 97, 98]⟩, .string ⟨#[101, 115, 99, 97, 112, 101]⟩, .string ⟨#[98, 97, 99, 107, 115, 112, 97, 99, 101]⟩, .string ⟨#[100, 101, 108, 101, 116, 101]⟩, .string ⟨#[117, 112]⟩, .string ⟨#[100, 111, 119, 110]⟩, .string ⟨#[108, 101, 102, 116]⟩, .string ⟨#[114, 105, 103, 104, 116]⟩, .string ⟨#[104, 111, 109, 101]⟩, .string ⟨#[101, 110, 100]⟩, .string ⟨#[112, 97, 103, 101, 117, 112]⟩, .string ⟨#[112, 97, 103, 101, 100, 111, 119, 110]⟩, .string ⟨#[112, 97, 115, 116, 101]⟩] 9)).alloc (.cells #[.int .u8 51] 5)) := by
    have := Sl.new ((w.alloc (.cells #[.int .i64 18, .string b, .int .i64 3, .bool a, .bool h, .bool t] 40)).alloc (.cells #[.string ⟨#[]⟩, .string ⟨#[116, 101, 120, 116]⟩, .string ⟨#[101, 110, 116, 101, 114]⟩, .string ⟨#[116, 97, 98]⟩, .string ⟨#[98, 97, 99, 107, 116, 97, 98]⟩, .string ⟨#[101, 115, 99, 97, 112, 101]⟩, .string ⟨#[98, 97, 99, 107, 115, 112, 97, 99, 101]⟩, .string ⟨#[100, 101, 108, 101, 116, 101]⟩, .string ⟨#[117, 112]⟩, .string ⟨#[100, 111, 119, 110]⟩, .string ⟨#[108, 101, 102, 116]⟩, .string ⟨#[114, 105, 103, 104, 116]⟩, .string ⟨#[104, 111, 109, 101]⟩, .string ⟨#[101, 110, 100]⟩, .string ⟨#[112, 97, 103, 101, 117, 112]⟩, .string ⟨#[112, 97, 103, 101, 100, 111, 119, 110]⟩, .string ⟨#[112, 97, 115, 116, 101]⟩] 9)) #[.int .u8 51] 5
    have hz : ((w.alloc (.cells #[.int .i64 18, .string b, .int .i64 3, .bool a, .bool h, .bool t] 40)).alloc (.cells #[.string ⟨#[]⟩, .string ⟨#[116, 101, 120, 116]⟩, .string ⟨#[101, 110, 116, 101, 114]⟩, .string ⟨#[116, 97, 98]⟩, .string ⟨#[98, 97, 99, 107, 116, 97, 98]⟩, .string ⟨#[101, 115, 99, 97, 112, 101]⟩, .string ⟨#[98, 97, 99, 107, 115, 112, 97, 99, 101]⟩, .string ⟨#[100, 101, 108, 101, 116, 101]⟩, .string ⟨#[117, 112]⟩, .string ⟨#[100, 111, 119, 110]⟩, .string ⟨#[108, 101, 102, 116]⟩, .string ⟨#[114, 105, 103, 104, 116]⟩, .string ⟨#[104, 111, 109, 101]⟩, .string ⟨#[101, 110, 100]⟩, .string ⟨#[112, 97, 103, 101, 117, 112]⟩, .string ⟨#[112, 97, 103, 101, 100, 111, 119, 110]⟩, .string ⟨#[112, 97, 115, 116, 101]⟩] 9)).heap.size = w.heap.size + 1 + 1 := by simp
    rw [hz] at this
    exact run_str_sl _ _ _ 1 1 [51] this rfl
  go_enter Tryd.func29, Tryd.ntmps29
  go_wp2_with (fail)
  go_ret
  exact ⟨rfl, kbel3 _ _ _ _⟩
set_option maxRecDepth 100000 in
set_option maxHeartbeats 4000000 in
theorem rbase_4 (b : ByteArray) (a h t : Bool) (w : World) :
    Calls Tryd.prog 29 #[.agg #[.int .i64 18, .string b, .int .i64 4, .bool a, .bool h, .bool t]] w fun e w' => e = .returned (.string ⟨#[102, 52]⟩) ∧ Below w.heap.size w w' := by
  have hcv : Sem.run Tryd.prog (Go.convert 22 9 (.slice (some ⟨w.heap.size + 1 + 1, 0, none⟩) 1 1)) (((w.alloc (.cells #[.int .i64 18, .string b, .int .i64 4, .bool a, .bool h, .bool t] 40)).alloc (.cells #[.string ⟨#[]⟩, .string ⟨#[116, 101, 120, 116]⟩, .string ⟨#[101, 110, 116, 101, 114]⟩, .string ⟨#[116, 97, 98]⟩, .string ⟨#[98, 97, 99, 107, 116, 97, 98]⟩, .string ⟨#[101, 115, 99, 97, 112, 101]⟩, .string ⟨#[98, 97, 99, 107, 115, 112, 97, 99, 101]⟩, .string ⟨#[100, 101, 108, 101, 116, 101]⟩, .string ⟨#[117, 112]⟩, .string ⟨#[100, 111, 119, 110]⟩, .string ⟨#[108, 101, 102, 116]⟩, .string ⟨#[114, 105, 103, 104, 116]⟩, .string ⟨#[104, 111, 109, 101]⟩, .string ⟨#[101, 110, 100]⟩, .string ⟨#[112, 97, 103, 101, 117, 112]⟩, .string ⟨#[112, 97, 103, 101, 100, 111, 119, 110]⟩, .string ⟨#[112, 97, 115, 116, 101]⟩] 9)).alloc (.cells #[.int .u8 52] 5)) = .ok (.string ⟨#[52]⟩) (((w.alloc (.cells #[.int .i64 18, .string b, .int .i64 4, .bool a, .bool h, .bool t] 40)).alloc (.cells #[.string ⟨#[]⟩, .string ⟨#[116, 101, 120, 116]⟩, .string ⟨#[101, 110, 116, 101, 114]⟩, .string ⟨#[116, 97, 98]⟩, .string ⟨#[98, 97, 99, 107, 116, 97, 98]⟩, .string ⟨#[101, 115, 99, 97, 112, 101]⟩, .string ⟨#[98, 97, 99, 107, 115, 112, 97, 99, 101]⟩, .string ⟨#[100, 101, 108, 101, 116, 101]⟩, .string ⟨#[117, 112]⟩, .string ⟨#[100, 111, 119, 110]⟩, .string ⟨#[108, 101, 102, 116]⟩, .string ⟨#[114, 105, 103, 104, 116]⟩, .string ⟨#[104, 111, 109, 101]⟩, .string ⟨#[101, 110, 100]⟩, .string ⟨#[112, 97, 103, 101, 117, 112]⟩, .string ⟨#[112, 97, 103, 101, 100, 111, 119, 110]⟩, .string ⟨#[112, 97, 115, 116, 101]⟩] 9)).alloc (.cells #[.int .u8 52] 5)) := by
    have := Sl.new ((w.alloc (.cells #[.int .i64 18, .string b, .int .i64 4, .bool a, .bool h, .bool t] 40)).alloc (.cells #[.string ⟨#[]⟩, .string ⟨#[116, 101, 120, 116]⟩, .string ⟨#[101, 110, 116, 101, 114]⟩, .string ⟨#[116, 97, 98]⟩, .string ⟨#[98, 97, 99, 107, 116, 97, 98]⟩, .string ⟨#[101, 115, 99, 97, 112, 101]⟩, .string ⟨#[98, 97, 99, 107, 115, 112, 97, 99, 101]⟩, .string ⟨#[100, 101, 108, 101, 116, 101]⟩, .string ⟨#[117, 112]⟩, .string ⟨#[100, 111, 119, 110]⟩, .string ⟨#[108, 101, 102, 116]⟩, .string ⟨#[114, 105, 103, 104, 116]⟩, .string ⟨#[104, 111, 109, 101]⟩, .string ⟨#[101, 110, 100]⟩, .string ⟨#[112, 97, 103, 101, 117, 112]⟩, .string ⟨#[112, 97, 103, 101, 100, 111, 119, 110]⟩, .string ⟨#[112, 97, 115, 116, 101]⟩] 9)) #[.int .u8 52] 5
    have hz : ((w.alloc (.cells #[.int .i64 18, .string b, .int .i64 4, .bool a, .bool h, .bool t] 40)).alloc (.cells #[.string ⟨#[]⟩, .string ⟨#[116, 101, 120, 116]⟩, .string ⟨#[101, 110, 116, 101, 114]⟩, .string ⟨#[116, 97, 98]⟩, .string ⟨#[98, 97, 99, 107, 116, 97, 98]⟩, .string ⟨#[101, 115, 99, 97, 112, 101]⟩, .string ⟨#[98, 97, 99, 107, 115, 112, 97, 99, 101]⟩, .string ⟨#[100, 101, 108, 101, 116, 101]⟩, .string ⟨#[117, 112]⟩, .string ⟨#[100, 111, 119, 110]⟩, .string ⟨#[108, 101, 102, 116]⟩, .string ⟨#[114, 105, 103, 104, 116]⟩, .string ⟨#[104, 111, 109, 101]⟩, .string ⟨#[101, 110, 100]⟩, .string ⟨#[112, 97, 103, 101, 117, 112]⟩, .string ⟨#[112, 97, 103, 101, 100, 111, 119, 110]⟩, .string ⟨#[112, 97, 115, 116, 101]⟩] 9)).heap.size = w.heap.size + 1 + 1 := by simp
    rw [hz] at this
    exact run_str_sl _ _ _ 1 1 [52] this rfl
  go_enter Tryd.func29, Tryd.ntmps29
  go_wp2_with (fail)
  go_ret
  exact ⟨rfl, kbel3 _ _ _ _⟩
set_option maxRecDepth 100000 in
set_option maxHeartbeats 4000000 in
theorem rbase_5 (b : ByteArray) (a h t : Bool) (w : World) :
    Calls Tryd.prog 29 #[.agg #[.int .i64 18, .string b, .int .i64 5, .bool a, .bool h, .bool t]] w fun e w' => e = .returned (.string ⟨#[102, 53]⟩) ∧ Below w.heap.size w w' := by
  have hcv : Sem.run Tryd.prog (Go.convert 22 9 (.slice (some ⟨w.heap.size + 1 + 1, 0, none⟩) 1 1)) (((w.alloc (.cells #[.int .i64 18, .string b, .int .i64 5, .bool a, .bool h, .bool t] 40)).alloc (.cells #[.string ⟨#[]⟩, .string ⟨#[116, 101, 120, 116]⟩, .string ⟨#[101, 110, 116, 101, 114]⟩, .string ⟨#[116, 97, 98]⟩, .string ⟨#[98, 97, 99, 107, 116, 97, 98]⟩, .string ⟨#[101, 115, 99, 97, 112, 101]⟩, .string ⟨#[98, 97, 99, 107, 115, 112, 97, 99, 101]⟩, .string ⟨#[100, 101, 108, 101, 116, 101]⟩, .string ⟨#[117, 112]⟩, .string ⟨#[100, 111, 119, 110]⟩, .string ⟨#[108, 101, 102, 116]⟩, .string ⟨#[114, 105, 103, 104, 116]⟩, .string ⟨#[104, 111, 109, 101]⟩, .string ⟨#[101, 110, 100]⟩, .string ⟨#[112, 97, 103, 101, 117, 112]⟩, .string ⟨#[112, 97, 103, 101, 100, 111, 119, 110]⟩, .string ⟨#[112, 97, 115, 116, 101]⟩] 9)).alloc (.cells #[.int .u8 53] 5)) = .ok (.string ⟨#[53]⟩) (((w.alloc (.cells #[.int .i64 18, .string b, .int .i64 5, .bool a, .bool h, .bool t] 40)).alloc (.cells #[.string ⟨#[]⟩, .string ⟨#[116, 101, 120, 116]⟩, .string ⟨#[101, 110, 116, 101, 114]⟩, .string ⟨#[116, 97, 98]⟩, .string ⟨#[98, 97, 99, 107, 116, 97, 98]⟩, .string ⟨#[101, 115, 99, 97, 112, 101]⟩, .string ⟨#[98, 97, 99, 107, 115, 112, 97, 99, 101]⟩, .string ⟨#[100, 101, 108, 101, 116, 101]⟩, .string ⟨#[117, 112]⟩, .string ⟨#[100, 111, 119, 110]⟩, .string ⟨#[108, 101, 102, 116]⟩, .string ⟨#[114, 105, 103, 104, 116]⟩, .string ⟨#[104, 111, 109, 101]⟩, .string ⟨#[101, 110, 100]⟩, .string ⟨#[112, 97, 103, 101, 117, 112]⟩, .string ⟨#[112, 97, 103, 101, 100, 111, 119, 110]⟩, .string ⟨#[112, 97, 115, 116, 101]⟩] 9)).alloc (.cells #[.int .u8 53] 5)) := by
    have := Sl.new ((w.alloc (.cells #[.int .i64 18, .string b, .int .i64 5, .bool a, .bool h, .bool t] 40)).alloc (.cells #[.string ⟨#[]⟩, .string ⟨#[116, 101, 120, 116]⟩, .string ⟨#[101, 110, 116, 101, 114]⟩, .string ⟨#[116, 97, 98]⟩, .string ⟨#[98, 97, 99, 107, 116, 97, 98]⟩, .string ⟨#[101, 115, 99, 97, 112, 101]⟩, .string ⟨#[98, 97, 99, 107, 115, 112, 97, 99, 101]⟩, .string ⟨#[100, 101, 108, 101, 116, 101]⟩, .string ⟨#[117, 112]⟩, .string ⟨#[100, 111, 119, 110]⟩, .string ⟨#[108, 101, 102, 116]⟩, .string ⟨#[114, 105, 103, 104, 116]⟩, .string ⟨#[104, 111, 109, 101]⟩, .string ⟨#[101, 110, 100]⟩, .string ⟨#[112, 97, 103, 101, 117, 112]⟩, .string ⟨#[112, 97, 103, 101, 100, 111, 119, 110]⟩, .string ⟨#[112, 97, 115, 116, 101]⟩] 9)) #[.int .u8 53] 5
    have hz : ((w.alloc (.cells #[.int .i64 18, .string b, .int .i64 5, .bool a, .bool h, .bool t] 40)).alloc (.cells #[.string ⟨#[]⟩, .string ⟨#[116, 101, 120, 116]⟩, .string ⟨#[101, 110, 116, 101, 114]⟩, .string ⟨#[116, 97, 98]⟩, .string ⟨#[98, 97, 99, 107, 116, 97, 98]⟩, .string ⟨#[101, 115, 99, 97, 112, 101]⟩, .string ⟨#[98, 97, 99, 107, 115, 112, 97, 99, 101]⟩, .string ⟨#[100, 101, 108, 101, 116, 101]⟩, .string ⟨#[117, 112]⟩, .string ⟨#[100, 111, 119, 110]⟩, .string ⟨#[108, 101, 102, 116]⟩, .string ⟨#[114, 105, 103, 104, 116]⟩, .string ⟨#[104, 111, 109, 101]⟩, .string ⟨#[101, 110, 100]⟩, .string ⟨#[112, 97, 103, 101, 117, 112]⟩, .string ⟨#[112, 97, 103, 101, 100, 111, 119, 110]⟩, .string ⟨#[112, 97, 115, 116, 101]⟩] 9)).heap.size = w.heap.size + 1 + 1 := by simp
    rw [hz] at this
    exact run_str_sl _ _ _ 1 1 [53] this rfl
  go_enter Tryd.func29, Tryd.ntmps29
  go_wp2_with (fail)
  go_ret
  exact ⟨rfl, kbel3 _ _ _ _⟩
set_option maxRecDepth 100000 in
set_option maxHeartbeats 4000000 in
theorem rbase_6 (b : ByteArray) (a h t : Bool) (w : World) :
    Calls Tryd.prog 29 #[.agg #[.int .i64 18, .string b, .int .i64 6, .bool a, .bool h, .bool t]] w fun e w' => e = .returned (.string ⟨#[102, 54]⟩) ∧ Below w.heap.size w w' := by
  have hcv : Sem.run Tryd.prog (Go.convert 22 9 (.slice (some ⟨w.heap.size + 1 + 1, 0, none⟩) 1 1)) (((w.alloc (.cells #[.int .i64 18, .string b, .int .i64 6, .bool a, .bool h, .bool t] 40)).alloc (.cells #[.string ⟨#[]⟩, .string ⟨#[116, 101, 120, 116]⟩, .string ⟨#[101, 110, 116, 101, 114]⟩, .string ⟨#[116, 97, 98]⟩, .string ⟨#[98, 97, 99, 107, 116, 97, 98]⟩, .string ⟨#[101, 115, 99, 97, 112, 101]⟩, .string ⟨#[98, 97, 99, 107, 115, 112, 97, 99, 101]⟩, .string ⟨#[100, 101, 108, 101, 116, 101]⟩, .string ⟨#[117, 112]⟩, .string ⟨#[100, 111, 119, 110]⟩, .string ⟨#[108, 101, 102, 116]⟩, .string ⟨#[114, 105, 103, 104, 116]⟩, .string ⟨#[104, 111, 109, 101]⟩, .string ⟨#[101, 110, 100]⟩, .string ⟨#[112, 97, 103, 101, 117, 112]⟩, .string ⟨#[112, 97, 103, 101, 100, 111, 119, 110]⟩, .string ⟨#[112, 97, 115, 116, 101]⟩] 9)).alloc (.cells #[.int .u8 54] 5)) = .ok (.string ⟨#[54]⟩) (((w.alloc (.cells #[.int .i64 18, .string b, .int .i64 6, .bool a, .bool h, .bool t] 40)).alloc (.cells #[.string ⟨#[]⟩, .string ⟨#[116, 101, 120, 116]⟩, .string ⟨#[101, 110, 116, 101, 114]⟩, .string ⟨#[116, 97, 98]⟩, .string ⟨#[98, 97, 99, 107, 116, 97, 98]⟩, .string ⟨#[101, 115, 99, 97, 112, 101]⟩, .string ⟨#[98, 97, 99, 107, 115, 112, 97, 99, 101]⟩, .string ⟨#[100, 101, 108, 101, 116, 101]⟩, .string ⟨#[117, 112]⟩, .string ⟨#[100, 111, 119, 110]⟩, .string ⟨#[108, 101, 102, 116]⟩, .string ⟨#[114, 105, 103, 104, 116]⟩, .string ⟨#[104, 111, 109, 101]⟩, .string ⟨#[101, 110, 100]⟩, .string ⟨#[112, 97, 103, 101, 117, 112]⟩, .string ⟨#[112, 97, 103, 101, 100, 111, 119, 110]⟩, .string ⟨#[112, 97, 115, 116, 101]⟩] 9)).alloc (.cells #[.int .u8 54] 5)) := by
    have := Sl.new ((w.alloc (.cells #[.int .i64 18, .string b, .int .i64 6, .bool a, .bool h, .bool t] 40)).alloc (.cells #[.string ⟨#[]⟩, .string ⟨#[116, 101, 120, 116]⟩, .string ⟨#[101, 110, 116, 101, 114]⟩, .string ⟨#[116, 97, 98]⟩, .string ⟨#[98, 97, 99, 107, 116, 97, 98]⟩, .string ⟨#[101, 115, 99, 97, 112, 101]⟩, .string ⟨#[98, 97, 99, 107, 115, 112, 97, 99, 101]⟩, .string ⟨#[100, 101, 108, 101, 116, 101]⟩, .string ⟨#[117, 112]⟩, .string ⟨#[100, 111, 119, 110]⟩, .string ⟨#[108, 101, 102, 116]⟩, .string ⟨#[114, 105, 103, 104, 116]⟩, .string ⟨#[104, 111, 109, 101]⟩, .string ⟨#[101, 110, 100]⟩, .string ⟨#[112, 97, 103, 101, 117, 112]⟩, .string ⟨#[112, 97, 103, 101, 100, 111, 119, 110]⟩, .string ⟨#[112, 97, 115, 116, 101]⟩] 9)) #[.int .u8 54] 5
    have hz : ((w.alloc (.cells #[.int .i64 18, .string b, .int .i64 6, .bool a, .bool h, .bool t] 40)).alloc (.cells #[.string ⟨#[]⟩, .string ⟨#[116, 101, 120, 116]⟩, .string ⟨#[101, 110, 116, 101, 114]⟩, .string ⟨#[116, 97, 98]⟩, .string ⟨#[98, 97, 99, 107, 116, 97, 98]⟩, .string ⟨#[101, 115, 99, 97, 112, 101]⟩, .string ⟨#[98, 97, 99, 107, 115, 112, 97, 99, 101]⟩, .string ⟨#[100, 101, 108, 101, 116, 101]⟩, .string ⟨#[117, 112]⟩, .string ⟨#[100, 111, 119, 110]⟩, .string ⟨#[108, 101, 102, 116]⟩, .string ⟨#[114, 105, 103, 104, 116]⟩, .string ⟨#[104, 111, 109, 101]⟩, .string ⟨#[101, 110, 100]⟩, .string ⟨#[112, 97, 103, 101, 117, 112]⟩, .string ⟨#[112, 97, 103, 101, 100, 111, 119, 110]⟩, .string ⟨#[112, 97, 115, 116, 101]⟩] 9)).heap.size = w.heap.size + 1 + 1 := by simp
    rw [hz] at this
    exact run_str_sl _ _ _ 1 1 [54] this rfl
  go_enter Tryd.func29, Tryd.ntmps29
  go_wp2_with (fail)
  go_ret
  exact ⟨rfl, kbel3 _ _ _ _⟩
set_option maxRecDepth 100000 in
set_option maxHeartbeats 4000000 in
theorem rbase_7 (b : ByteArray) (a h t : Bool) (w : World) :
    Calls Tryd.prog 29 #[.agg #[.int .i64 18, .string b, .int .i64 7, .bool a, .bool h, .bool t]] w fun e w' => e = .returned (.string ⟨#[102, 55]⟩) ∧ Below w.heap.size w w' := by
  have hcv : Sem.run Tryd.prog (Go.convert 22 9 (.slice (some ⟨w.heap.size + 1 + 1, 0, none⟩) 1 1)) (((w.alloc (.cells #[.int .i64 18, .string b, .int .i64 7, .bool a, .bool h, .bool t] 40)).alloc (.cells #[.string ⟨#[]⟩, .string ⟨#[116, 101, 120, 116]⟩, .string ⟨#[101, 110, 116, 101, 114]⟩, .string ⟨#[116, 97, 98]⟩, .string ⟨#[98, 97, 99, 107, 116, 97, 98]⟩, .string ⟨#[101, 115, 99, 97, 112, 101]⟩, .string ⟨#[98, 97, 99, 107, 115, 112, 97, 99, 101]⟩, .string ⟨#[100, 101, 108, 101, 116, 101]⟩, .string ⟨#[117, 112]⟩, .string ⟨#[100, 111, 119, 110]⟩, .string ⟨#[108, 101, 102, 116]⟩, .string ⟨#[114, 105, 103, 104, 116]⟩, .string ⟨#[104, 111, 109, 101]⟩, .string ⟨#[101, 110, 100]⟩, .string ⟨#[112, 97, 103, 101, 117, 112]⟩, .string ⟨#[112, 97, 103, 101, 100, 111, 119, 110]⟩, .string ⟨#[112, 97, 115, 116, 101]⟩] 9)).alloc (.cells #[.int .u8 55] 5)) = .ok (.string ⟨#[55]⟩) (((w.alloc (.cells #[.int .i64 18, .string b, .int .i64 7, .bool a, .bool h, .bool t] 40)).alloc (.cells #[.string ⟨#[]⟩, .string ⟨#[116, 101, 120, 116]⟩, .string ⟨#[101, 110, 116, 101, 114]⟩, .string ⟨#[116, 97, 98]⟩, .string ⟨#[98, 97, 99, 107, 116, 97, 98]⟩, .string ⟨#[101, 115, 99, 97, 112, 101]⟩, .string ⟨#[98, 97, 99, 107, 115, 112, 97, 99, 101]⟩, .string ⟨#[100, 101, 108, 101, 116, 101]⟩, .string ⟨#[117, 112]⟩, .string ⟨#[100, 111, 119, 110]⟩, .string ⟨#[108, 101, 102, 116]⟩, .string ⟨#[114, 105, 103, 104, 116]⟩, .string ⟨#[104, 111, 109, 101]⟩, .string ⟨#[101, 110, 100]⟩, .string ⟨#[112, 97, 103, 101, 117, 112]⟩, .string ⟨#[112, 97, 103, 101, 100, 111, 119, 110]⟩, .string ⟨#[112, 97, 115, 116, 101]⟩] 9)).alloc (.cells #[.int .u8 55] 5)) := by
    have := Sl.new ((w.alloc (.cells #[.int .i64 18, .string b, .int .i64 7, .bool a, .bool h, .bool t] 40)).alloc (.cells #[.string ⟨#[]⟩, .string ⟨#[116, 101, 120, 116]⟩, .string ⟨#[101, 110, 116, 101, 114]⟩, .string ⟨#[116, 97, 98]⟩, .string ⟨#[98, 97, 99, 107, 116, 97, 98]⟩, .string ⟨#[101, 115, 99, 97, 112, 101]⟩, .string ⟨#[98, 97, 99, 107, 115, 112, 97, 99, 101]⟩, .string ⟨#[100, 101, 108, 101, 116, 101]⟩, .string ⟨#[117, 112]⟩, .string ⟨#[100, 111, 119, 110]⟩, .string ⟨#[108, 101, 102, 116]⟩, .string ⟨#[114, 105, 103, 104, 116]⟩, .string ⟨#[104, 111, 109, 101]⟩, .string ⟨#[101, 110, 100]⟩, .string ⟨#[112, 97, 103, 101, 117, 112]⟩, .string ⟨#[112, 97, 103, 101, 100, 111, 119, 110]⟩, .string ⟨#[112, 97, 115, 116, 101]⟩] 9)) #[.int .u8 55] 5
    have hz : ((w.alloc (.cells #[.int .i64 18, .string b, .int .i64 7, .bool a, .bool h, .bool t] 40)).alloc (.cells #[.string ⟨#[]⟩, .string ⟨#[116, 101, 120, 116]⟩, .string ⟨#[101, 110, 116, 101, 114]⟩, .string ⟨#[116, 97, 98]⟩, .string ⟨#[98, 97, 99, 107, 116, 97, 98]⟩, .string ⟨#[101, 115, 99, 97, 112, 101]⟩, .string ⟨#[98, 97, 99, 107, 115, 112, 97, 99, 101]⟩, .string ⟨#[100, 101, 108, 101, 116, 101]⟩, .string ⟨#[117, 112]⟩, .string ⟨#[100, 111, 119, 110]⟩, .string ⟨#[108, 101, 102, 116]⟩, .string ⟨#[114, 105, 103, 104, 116]⟩, .string ⟨#[104, 111, 109, 101]⟩, .string ⟨#[101, 110, 100]⟩, .string ⟨#[112, 97, 103, 101, 117, 112]⟩, .string ⟨#[112, 97, 103, 101, 100, 111, 119, 110]⟩, .string ⟨#[112, 97, 115, 116, 101]⟩] 9)).heap.size = w.heap.size + 1 + 1 := by simp
    rw [hz] at this
    exact run_str_sl _ _ _ 1 1 [55] this rfl
  go_enter Tryd.func29, Tryd.ntmps29
  go_wp2_with (fail)
  go_ret
  exact ⟨rfl, kbel3 _ _ _ _⟩
set_option maxRecDepth 100000 in
set_option maxHeartbeats 4000000 in
theorem rbase_8 (b : ByteArray) (a h t : Bool) (w : World) :
    Calls Tryd.prog 29 #[.agg #[.int .i64 18, .string b, .int .i64 8, .bool a, .bool h, .bool t]] w fun e w' => e = .returned (.string ⟨#[102, 56]⟩) ∧ Below w.heap.size w w' := by
  have hcv : Sem.run Tryd.prog (Go.convert 22 9 (.slice (some ⟨w.heap.size + 1 + 1, 0, none⟩) 1 1)) (((w.alloc (.cells #[.int .i64 18, .string b, .int .i64 8, .bool a, .bool h, .bool t] 40)).alloc (.cells #[.string ⟨#[]⟩, .string ⟨#[116, 101, 120, 116]⟩, .string ⟨#[101, 110, 116, 101, 114]⟩, .string ⟨#[116, 97, 98]⟩, .string ⟨#[98, 97, 99, 107, 116, 97, 98]⟩, .string ⟨#[101, 115, 99, 97, 112, 101]⟩, .string ⟨#[98, 97, 99, 107, 115, 112, 97, 99, 101]⟩, .string ⟨#[100, 101, 108, 101, 116, 101]⟩, .string ⟨#[117, 112]⟩, .string ⟨#[100, 111, 119, 110]⟩, .string ⟨#[108, 101, 102, 116]⟩, .string ⟨#[114, 105, 103, 104, 116]⟩, .string ⟨#[104, 111, 109, 101]⟩, .string ⟨#[101, 110, 100]⟩, .string ⟨#[112, 97, 103, 101, 117, 112]⟩, .string ⟨#[112, 97, 103, 101, 100, 111, 119, 110]⟩, .string ⟨#[112, 97, 115, 116, 101]⟩] 9)).alloc (.cells #[.int .u8 56] 5)) = .ok (.string ⟨#[56]⟩) (((w.alloc (.cells #[.int .i64 18, .string b, .int .i64 8, .bool a, .bool h, .bool t] 40)).alloc (.cells #[.string ⟨#[]⟩, .string ⟨#[116, 101, 120, 116]⟩, .string ⟨#[101, 110, 116, 101, 114]⟩, .string ⟨#[116, 97, 98]⟩, .string ⟨#[98, 97, 99, 107, 116, 97, 98]⟩, .string ⟨#[101, 115, 99, 97, 112, 101]⟩, .string ⟨#[98, 97, 99, 107, 115, 112, 97, 99, 101]⟩, .string ⟨#[100, 101, 108, 101, 116, 101]⟩, .string ⟨#[117, 112]⟩, .string ⟨#[100, 111, 119, 110]⟩, .string ⟨#[108, 101, 102, 116]⟩, .string ⟨#[114, 105, 103, 104, 116]⟩, .string ⟨#[104, 111, 109, 101]⟩, .string ⟨#[101, 110, 100]⟩, .string ⟨#[112, 97, 103, 101, 117, 112]⟩, .string ⟨#[112, 97, 103, 101, 100, 111, 119, 110]⟩, .string ⟨#[112, 97, 115, 116, 101]⟩] 9)).alloc (.cells #[.int .u8 56] 5)) := by
    have := Sl.new ((w.alloc (.cells #[.int .i64 18, .string b, .int .i64 8, .bool a, .bool h, .bool t] 40)).alloc (.cells #[.string ⟨#[]⟩, .string ⟨#[116, 101, 120, 116]⟩, .string ⟨#[101, 110, 116, 101, 114]⟩, .string ⟨#[116, 97, 98]⟩, .string ⟨#[98, 97, 99, 107, 116, 97, 98]⟩, .string ⟨#[101, 115, 99, 97, 112, 101]⟩, .string ⟨#[98, 97, 99, 107, 115, 112, 97, 99, 101]⟩, .string ⟨#[100, 101, 108, 101, 116, 101]⟩, .string ⟨#[117, 112]⟩, .string ⟨#[100, 111, 119, 110]⟩, .string ⟨#[108, 101, 102, 116]⟩, .string ⟨#[114, 105, 103, 104, 116]⟩, .string ⟨#[104, 111, 109, 101]⟩, .string ⟨#[101, 110, 100]⟩, .string ⟨#[112, 97, 103, 101, 117, 112]⟩, .string ⟨#[112, 97, 103, 101, 100, 111, 119, 110]⟩, .string ⟨#[112, 97, 115, 116, 101]⟩] 9)) #[.int .u8 56] 5
    have hz : ((w.alloc (.cells #[.int .i64 18, .string b, .int .i64 8, .bool a, .bool h, .bool t] 40)).alloc (.cells #[.string ⟨#[]⟩, .string ⟨#[116, 101, 120, 116]⟩, .string ⟨#[101, 110, 116, 101, 114]⟩, .string ⟨#[116, 97, 98]⟩, .string ⟨#[98, 97, 99, 107, 116, 97, 98]⟩, .string ⟨#[101, 115, 99, 97, 112, 101]⟩, .string ⟨#[98, 97, 99, 107, 115, 112, 97, 99, 101]⟩, .string ⟨#[100, 101, 108, 101, 116, 101]⟩, .string ⟨#[117, 112]⟩, .string ⟨#[100, 111, 119, 110]⟩, .string ⟨#[108, 101, 102, 116]⟩, .string ⟨#[114, 105, 103, 104, 116]⟩, .string ⟨#[104, 111, 109, 101]⟩, .string ⟨#[101, 110, 100]⟩, .string ⟨#[112, 97, 103, 101, 117, 112]⟩, .string ⟨#[112, 97, 103, 101, 100, 111, 119, 110]⟩, .string ⟨#[112, 97, 115, 116, 101]⟩] 9)).heap.size = w.heap.size + 1 + 1 := by simp
    rw [hz] at this
    exact run_str_sl _ _ _ 1 1 [56] this rfl
  go_enter Tryd.func29, Tryd.ntmps29
  go_wp2_with (fail)
  go_ret
  exact ⟨rfl, kbel3 _ _ _ _⟩
set_option maxRecDepth 100000 in
set_option maxHeartbeats 4000000 in
theorem rbase_9 (b : ByteArray) (a h t : Bool) (w : World) :
    Calls Tryd.prog 29 #[.agg #[.int .i64 18, .string b, .int .i64 9, .bool a, .bool h, .bool t]] w fun e w' => e = .returned (.string ⟨#[102, 57]⟩) ∧ Below w.heap.size w w' := by
  have hcv : Sem.run Tryd.prog (Go.convert 22 9 (.slice (some ⟨w.heap.size + 1 + 1, 0, none⟩) 1 1)) (((w.alloc (.cells #[.int .i64 18, .string b, .int .i64 9, .bool a, .bool h, .bool t] 40)).alloc (.cells #[.string ⟨#[]⟩, .string ⟨#[116, 101, 120, 116]⟩, .string ⟨#[101, 110, 116, 101, 114]⟩, .string ⟨#[116, 97, 98]⟩, .string ⟨#[98, 97, 99, 107, 116, 97, 98]⟩, .string ⟨#[101, 115, 99, 97, 112, 101]⟩, .string ⟨#[98, 97, 99, 107, 115, 112, 97, 99, 101]⟩, .string ⟨#[100, 101, 108, 101, 116, 101]⟩, .string ⟨#[117, 112]⟩, .string ⟨#[100, 111, 119, 110]⟩, .string ⟨#[108, 101, 102, 116]⟩, .string ⟨#[114, 105, 103, 104, 116]⟩, .string ⟨#[104, 111, 109, 101]⟩, .string ⟨#[101, 110, 100]⟩, .string ⟨#[112, 97, 103, 101, 117, 112]⟩, .string ⟨#[112, 97, 103, 101, 100, 111, 119, 110]⟩, .string ⟨#[112, 97, 115, 116, 101]⟩] 9)).alloc (.cells #[.int .u8 57] 5)) = .ok (.string ⟨#[57]⟩) (((w.alloc (.cells #[.int .i64 18, .string b, .int .i64 9, .bool a, .bool h, .bool t] 40)).alloc (.cells #[.string ⟨#[]⟩, .string ⟨#[116, 101, 120, 116]⟩, .string ⟨#[101, 110, 116, 101, 114]⟩, .string ⟨#[116, 97, 98]⟩, .string ⟨#[98, 97, 99, 107, 116, 97, 98]⟩, .string ⟨#[101, 115, 99, 97, 112, 101]⟩, .string ⟨#[98, 97, 99, 107, 115, 112, 97, 99, 101]⟩, .string ⟨#[100, 101, 108, 101, 116, 101]⟩, .string ⟨#[117, 112]⟩, .string ⟨#[100, 111, 119, 110]⟩, .string ⟨#[108, 101, 102, 116]⟩, .string ⟨#[114, 105, 103, 104, 116]⟩, .string ⟨#[104, 111, 109, 101]⟩, .string ⟨#[101, 110, 100]⟩, .string ⟨#[112, 97, 103, 101, 117, 112]⟩, .string ⟨#[112, 97, 103, 101, 100, 111, 119, 110]⟩, .string ⟨#[112, 97, 115, 116, 101]⟩] 9)).alloc (.cells #[.int .u8 57] 5)) := by
    have := Sl.new ((w.alloc (.cells #[.int .i64 18, .string b, .int .i64 9, .bool a, .bool h, .bool t] 40)).alloc (.cells #[.string ⟨#[]⟩, .string ⟨#[116, 101, 120, 116]⟩, .string ⟨#[101, 110, 116, 101, 114]⟩, .string ⟨#[116, 97, 98]⟩, .string ⟨#[98, 97, 99, 107, 116, 97, 98]⟩, .string ⟨#[101, 115, 99, 97, 112, 101]⟩, .string ⟨#[98, 97, 99, 107, 115, 112, 97, 99, 101]⟩, .string ⟨#[100, 101, 108, 101, 116, 101]⟩, .string ⟨#[117, 112]⟩, .string ⟨#[100, 111, 119, 110]⟩, .string ⟨#[108, 101, 102, 116]⟩, .string ⟨#[114, 105, 103, 104, 116]⟩, .string ⟨#[104, 111, 109, 101]⟩, .string ⟨#[101, 110, 100]⟩, .string ⟨#[112, 97, 103, 101, 117, 112]⟩, .string ⟨#[112, 97, 103, 101, 100, 111, 119, 110]⟩, .string ⟨#[112, 97, 115, 116, 101]⟩] 9)) #[.int .u8 57] 5
    have hz : ((w.alloc (.cells #[.int .i64 18, .string b, .int .i64 9, .bool a, .bool h, .bool t] 40)).alloc (.cells #[.string ⟨#[]⟩, .string ⟨#[116, 101, 120, 116]⟩, .string ⟨#[101, 110, 116, 101, 114]⟩, .string ⟨#[116, 97, 98]⟩, .string ⟨#[98, 97, 99, 107, 116, 97, 98]⟩, .string ⟨#[101, 115, 99, 97, 112, 101]⟩, .string ⟨#[98, 97, 99, 107, 115, 112, 97, 99, 101]⟩, .string ⟨#[100, 101, 108, 101, 116, 101]⟩, .string ⟨#[117, 112]⟩, .string ⟨#[100, 111, 119, 110]⟩, .string ⟨#[108, 101, 102, 116]⟩, .string ⟨#[114, 105, 103, 104, 116]⟩, .string ⟨#[104, 111, 109, 101]⟩, .string ⟨#[101, 110, 100]⟩, .string ⟨#[112, 97, 103, 101, 117, 112]⟩, .string ⟨#[112, 97, 103, 101, 100, 111, 119, 110]⟩, .string ⟨#[112, 97, 115, 116, 101]⟩] 9)).heap.size = w.heap.size + 1 + 1 := by simp
    rw [hz] at this
    exact run_str_sl _ _ _ 1 1 [57] this rfl
  go_enter Tryd.func29, Tryd.ntmps29
  go_wp2_with (fail)
  go_ret
  exact ⟨rfl, kbel3 _ _ _ _⟩
set_option maxRecDepth 100000 in
set_option maxHeartbeats 4000000 in
theorem rbase_10 (b : ByteArray) (a h t : Bool) (w : World) :
    Calls Tryd.prog 29 #[.agg #[.int .i64 18, .string b, .int .i64 10, .bool a, .bool h, .bool t]] w fun e w' => e = .returned (.string ⟨#[102, 49, 48]⟩) ∧ Below w.heap.size w w' := by
  have hcv : Sem.run Tryd.prog (Go.convert 22 9 (.slice (some ⟨w.heap.size + 1 + 1, 0, none⟩) 1 1)) (((w.alloc (.cells #[.int .i64 18, .string b, .int .i64 10, .bool a, .bool h, .bool t] 40)).alloc (.cells #[.string ⟨#[]⟩, .string ⟨#[116, 101, 120, 116]⟩, .string ⟨#[101, 110, 116, 101, 114]⟩, .string ⟨#[116, 97, 98]⟩, .string ⟨#[98, 97, 99, 107, 116, 97, 98]⟩, .string ⟨#[101, 115, 99, 97, 112, 101]⟩, .string ⟨#[98, 97, 99, 107, 115, 112, 97, 99, 101]⟩, .string ⟨#[100, 101, 108, 101, 116, 101]⟩, .string ⟨#[117, 112]⟩, .string ⟨#[100, 111, 119, 110]⟩, .string ⟨#[108, 101, 102, 116]⟩, .string ⟨#[114, 105, 103, 104, 116]⟩, .string ⟨#[104, 111, 109, 101]⟩, .string ⟨#[101, 110, 100]⟩, .string ⟨#[112, 97, 103, 101, 117, 112]⟩, .string ⟨#[112, 97, 103, 101, 100, 111, 119, 110]⟩, .string ⟨#[112, 97, 115, 116, 101]⟩] 9)).alloc (.cells #[.int .u8 48] 5)) = .ok (.string ⟨#[48]⟩) (((w.alloc (.cells #[.int .i64 18, .string b, .int .i64 10, .bool a, .bool h, .bool t] 40)).alloc (.cells #[.string ⟨#[]⟩, .string ⟨#[116, 101, 120, 116]⟩, .string ⟨#[101, 110, 116, 101, 114]⟩, .string ⟨#[116, 97, 98]⟩, .string ⟨#[98, 97, 99, 107, 116, 97, 98]⟩, .string ⟨#[101, 115, 99, 97, 112, 101]⟩, .string ⟨#[98, 97, 99, 107, 115, 112, 97, 99, 101]⟩, .string ⟨#[100, 101, 108, 101, 116, 101]⟩, .string ⟨#[117, 112]⟩, .string ⟨#[100, 111, 119, 110]⟩, .string ⟨#[108, 101, 102, 116]⟩, .string ⟨#[114, 105, 103, 104, 116]⟩, .string ⟨#[104, 111, 109, 101]⟩, .string ⟨#[101, 110, 100]⟩, .string ⟨#[112, 97, 103, 101, 117, 112]⟩, .string ⟨#[112, 97, 103, 101, 100, 111, 119, 110]⟩, .string ⟨#[112, 97, 115, 116, 101]⟩] 9)).alloc (.cells #[.int .u8 48] 5)) := by
    have := Sl.new ((w.alloc (.cells #[.int .i64 18, .string b, .int .i64 10, .bool a, .bool h, .bool t] 40)).alloc (.cells #[.string ⟨#[]⟩, .string ⟨#[116, 101, 120, 116]⟩, .string ⟨#[101, 110, 116, 101, 114]⟩, .string ⟨#[116, 97, 98]⟩, .string ⟨#[98, 97, 99, 107, 116, 97, 98]⟩, .string ⟨#[101, 115, 99, 97, 112, 101]⟩, .string ⟨#[98, 97, 99, 107, 115, 112, 97, 99, 101]⟩, .string ⟨#[100, 101, 108, 101, 116, 101]⟩, .string ⟨#[117, 112]⟩, .string ⟨#[100, 111, 119, 110]⟩, .string ⟨#[108, 101, 102, 116]⟩, .string ⟨#[114, 105, 103, 104, 116]⟩, .string ⟨#[104, 111, 109, 101]⟩, .string ⟨#[101, 110, 100]⟩, .string ⟨#[112, 97, 103, 101, 117, 112]⟩, .string ⟨#[112, 97, 103, 101, 100, 111, 119, 110]⟩, .string ⟨#[112, 97, 115, 116, 101]⟩] 9)) #[.int .u8 48] 5
    have hz : ((w.alloc (.cells #[.int .i64 18, .string b, .int .i64 10, .bool a, .bool h, .bool t] 40)).alloc (.cells #[.string ⟨#[]⟩, .string ⟨#[116, 101, 120, 116]⟩, .string ⟨#[101, 110, 116, 101, 114]⟩, .string ⟨#[116, 97, 98]⟩, .string ⟨#[98, 97, 99, 107, 116, 97, 98]⟩, .string ⟨#[101, 115, 99, 97, 112, 101]⟩, .string ⟨#[98, 97, 99, 107, 115, 112, 97, 99, 101]⟩, .string ⟨#[100, 101, 108, 101, 116, 101]⟩, .string ⟨#[117, 112]⟩, .string ⟨#[100, 111, 119, 110]⟩, .string ⟨#[108, 101, 102, 116]⟩, .string ⟨#[114, 105, 103, 104, 116]⟩, .string ⟨#[104, 111, 109, 101]⟩, .string ⟨#[101, 110, 100]⟩, .string ⟨#[112, 97, 103, 101, 117, 112]⟩, .string ⟨#[112, 97, 103, 101, 100, 111, 119, 110]⟩, .string ⟨#[112, 97, 115, 116, 101]⟩] 9)).heap.size = w.heap.size + 1 + 1 := by simp
    rw [hz] at this
    exact run_str_sl _ _ _ 1 1 [48] this rfl
  go_enter Tryd.func29, Tryd.ntmps29
  go_wp2_with (fail)
  go_ret
  exact ⟨rfl, kbel3 _ _ _ _⟩
set_option maxRecDepth 100000 in
set_option maxHeartbeats 4000000 in
theorem rbase_11 (b : ByteArray) (a h t : Bool) (w : World) :
    Calls Tryd.prog 29 #[.agg #[.int .i64 18, .string b, .int .i64 11, .bool a, .bool h, .bool t]] w fun e w' => e = .returned (.string ⟨#[102, 49, 49]⟩) ∧ Below w.heap.size w w' := by
  have hcv : Sem.run Tryd.prog (Go.convert 22 9 (.slice (some ⟨w.heap.size + 1 + 1, 0, none⟩) 1 1)) (((w.alloc (.cells #[.int .i64 18, .string b, .int .i64 11, .bool a, .bool h, .bool t] 40)).alloc (.cells #[.string ⟨#[]⟩, .string ⟨#[116, 101, 120, 116]⟩, .string ⟨#[101, 110, 116, 101, 114]⟩, .string ⟨#[116, 97, 98]⟩, .string ⟨#[98, 97, 99, 107, 116, 97, 98]⟩, .string ⟨#[101, 115, 99, 97, 112, 101]⟩, .string ⟨#[98, 97, 99, 107, 115, 112, 97, 99, 101]⟩, .string ⟨#[100, 101, 108, 101, 116, 101]⟩, .string ⟨#[117, 112]⟩, .string ⟨#[100, 111, 119, 110]⟩, .string ⟨#[108, 101, 102, 116]⟩, .string ⟨#[114, 105, 103, 104, 116]⟩, .string ⟨#[104, 111, 109, 101]⟩, .string ⟨#[101, 110, 100]⟩, .string ⟨#[112, 97, 103, 101, 117, 112]⟩, .string ⟨#[112, 97, 103, 101, 100, 111, 119, 110]⟩, .string ⟨#[112, 97, 115, 116, 101]⟩] 9)).alloc (.cells #[.int .u8 49] 5)) = .ok (.string ⟨#[49]⟩) (((w.alloc (.cells #[.int .i64 18, .string b, .int .i64 11, .bool a, .bool h, .bool t] 40)).alloc (.cells #[.string ⟨#[]⟩, .string ⟨#[116, 101, 120, 116]⟩, .string ⟨#[101, 110, 116, 101, 114]⟩, .string ⟨#[116, 97, 98]⟩, .string ⟨#[98, 97, 99, 107, 116, 97, 98]⟩, .string ⟨#[101, 115, 99, 97, 112, 101]⟩, .string ⟨#[98, 97, 99, 107, 115, 112, 97, 99, 101]⟩, .string ⟨#[100, 101, 108, 101, 116, 101]⟩, .string ⟨#[117, 112]⟩, .string ⟨#[100, 111, 119, 110]⟩, .string ⟨#[108, 101, 102, 116]⟩, .string ⟨#[114, 105, 103, 104, 116]⟩, .string ⟨#[104, 111, 109, 101]⟩, .string ⟨#[101, 110, 100]⟩, .string ⟨#[112, 97, 103, 101, 117, 112]⟩, .string ⟨#[112, 97, 103, 101, 100, 111, 119, 110]⟩, .string ⟨#[112, 97, 115, 116, 101]⟩] 9)).alloc (.cells #[.int .u8 49] 5)) := by
    have := Sl.new ((w.alloc (.cells #[.int .i64 18, .string b, .int .i64 11, .bool a, .bool h, .bool t] 40)).alloc (.cells #[.string ⟨#[]⟩, .string ⟨#[116, 101, 120, 116]⟩, .string ⟨#[101, 110, 116, 101, 114]⟩, .string ⟨#[116, 97, 98]⟩, .string ⟨#[98, 97, 99, 107, 116, 97, 98]⟩, .string ⟨#[101, 115, 99, 97, 112, 101]⟩, .string ⟨#[98, 97, 99, 107, 115, 112, 97, 99, 101]⟩, .string ⟨#[100, 101, 108, 101, 116, 101]⟩, .string ⟨#[117, 112]⟩, .string ⟨#[100, 111, 119, 110]⟩, .string ⟨#[108, 101, 102, 116]⟩, .string ⟨#[114, 105, 103, 104, 116]⟩, .string ⟨#[104, 111, 109, 101]⟩, .string ⟨#[101, 110, 100]⟩, .string ⟨#[112, 97, 103, 101, 117, 112]⟩, .string ⟨#[112, 97, 103, 101, 100, 111, 119, 110]⟩, .string ⟨#[112, 97, 115, 116, 101]⟩] 9)) #[.int .u8 49] 5
    have hz : ((w.alloc (.cells #[.int .i64 18, .string b, .int .i64 11, .bool a, .bool h, .bool t] 40)).alloc (.cells #[.string ⟨#[]⟩, .string ⟨#[116, 101, 120, 116]⟩, .string ⟨#[101, 110, 116, 101, 114]⟩, .string ⟨#[116, 97, 98]⟩, .string ⟨#[98, 97, 99, 107, 116, 97, 98]⟩, .string ⟨#[101, 115, 99, 97, 112, 101]⟩, .string ⟨#[98, 97, 99, 107, 115, 112, 97, 99, 101]⟩, .string ⟨#[100, 101, 108, 101, 116, 101]⟩, .string ⟨#[117, 112]⟩, .string ⟨#[100, 111, 119, 110]⟩, .string ⟨#[108, 101, 102, 116]⟩, .string ⟨#[114, 105, 103, 104, 116]⟩, .string ⟨#[104, 111, 109, 101]⟩, .string ⟨#[101, 110, 100]⟩, .string ⟨#[112, 97, 103, 101, 117, 112]⟩, .string ⟨#[112, 97, 103, 101, 100, 111, 119, 110]⟩, .string ⟨#[112, 97, 115, 116, 101]⟩] 9)).heap.size = w.heap.size + 1 + 1 := by simp
    rw [hz] at this
    exact run_str_sl _ _ _ 1 1 [49] this rfl
  go_enter Tryd.func29, Tryd.ntmps29
  go_wp2_with (fail)
  go_ret
  exact ⟨rfl, kbel3 _ _ _ _⟩
set_option maxRecDepth 100000 in
set_option maxHeartbeats 4000000 in
theorem rbase_12 (b : ByteArray) (a h t : Bool) (w : World) :
    Calls Tryd.prog 29 #[.agg #[.int .i64 18, .string b, .int .i64 12, .bool a, .bool h, .bool t]] w fun e w' => e = .returned (.string ⟨#[102, 49, 50]⟩) ∧ Below w.heap.size w w' := by
  have hcv : Sem.run Tryd.prog (Go.convert 22 9 (.slice (some ⟨w.heap.size + 1 + 1, 0, none⟩) 1 1)) (((w.alloc (.cells #[.int .i64 18, .string b, .int .i64 12, .bool a, .bool h, .bool t] 40)).alloc (.cells #[.string ⟨#[]⟩, .string ⟨#[116, 101, 120, 116]⟩, .string ⟨#[101, 110, 116, 101, 114]⟩, .string ⟨#[116, 97, 98]⟩, .string ⟨#[98, 97, 99, 107, 116, 97, 98]⟩, .string ⟨#[101, 115, 99, 97, 112, 101]⟩, .string ⟨#[98, 97, 99, 107, 115, 112, 97, 99, 101]⟩, .string ⟨#[100, 101, 108, 101, 116, 101]⟩, .string ⟨#[117, 112]⟩, .string ⟨#[100, 111, 119, 110]⟩, .string ⟨#[108, 101, 102, 116]⟩, .string ⟨#[114, 105, 103, 104, 116]⟩, .string ⟨#[104, 111, 109, 101]⟩, .string ⟨#[101, 110, 100]⟩, .string ⟨#[112, 97, 103, 101, 117, 112]⟩, .string ⟨#[112, 97, 103, 101, 100, 111, 119, 110]⟩, .string ⟨#[112, 97, 115, 116, 101]⟩] 9)).alloc (.cells #[.int .u8 50] 5)) = .ok (.string ⟨#[50]⟩) (((w.alloc (.cells #[.int .i64 18, .string b, .int .i64 12, .bool a, .bool h, .bool t] 40)).alloc (.cells #[.string ⟨#[]⟩, .string ⟨#[116, 101, 120, 116]⟩, .string ⟨#[101, 110, 116, 101, 114]⟩, .string ⟨#[116, 97, 98]⟩, .string ⟨#[98, 97, 99, 107, 116, 97, 98]⟩, .string ⟨#[101, 115, 99, 97, 112, 101]⟩, .string ⟨#[98, 97, 99, 107, 115, 112, 97, 99, 101]⟩, .string ⟨#[100, 101, 108, 101, 116, 101]⟩, .string ⟨#[117, 112]⟩, .string ⟨#[100, 111, 119, 110]⟩, .string ⟨#[108, 101, 102, 116]⟩, .string ⟨#[114, 105, 103, 104, 116]⟩, .string ⟨#[104, 111, 109, 101]⟩, .string ⟨#[101, 110, 100]⟩, .string ⟨#[112, 97, 103, 101, 117, 112]⟩, .string ⟨#[112, 97, 103, 101, 100, 111, 119, 110]⟩, .string ⟨#[112, 97, 115, 116, 101]⟩] 9)).alloc (.cells #[.int .u8 50] 5)) := by
    have := Sl.new ((w.alloc (.cells #[.int .i64 18, .string b, .int .i64 12, .bool a, .bool h, .bool t] 40)).alloc (.cells #[.string ⟨#[]⟩, .string ⟨#[116, 101, 120, 116]⟩, .string ⟨#[101, 110, 116, 101, 114]⟩, .string ⟨#[116, 97, 98]⟩, .string ⟨#[98, 97, 99, 107, 116, 97, 98]⟩, .string ⟨#[101, 115, 99, 97, 112, 101]⟩, .string ⟨#[98, 97, 99, 107, 115, 112, 97, 99, 101]⟩, .string ⟨#[100, 101, 108, 101, 116, 101]⟩, .string ⟨#[117, 112]⟩, .string ⟨#[100, 111, 119, 110]⟩, .string ⟨#[108, 101, 102, 116]⟩, .string ⟨#[114, 105, 103, 104, 116]⟩, .string ⟨#[104, 111, 109, 101]⟩, .string ⟨#[101, 110, 100]⟩, .string ⟨#[112, 97, 103, 101, 117, 112]⟩, .string ⟨#[112, 97, 103, 101, 100, 111, 119, 110]⟩, .string ⟨#[112, 97, 115, 116, 101]⟩] 9)) #[.int .u8 50] 5
    have hz : ((w.alloc (.cells #[.int .i64 18, .string b, .int .i64 12, .bool a, .bool h, .bool t] 40)).alloc (.cells #[.string ⟨#[]⟩, .string ⟨#[116, 101, 120, 116]⟩, .string ⟨#[101, 110, 116, 101, 114]⟩, .string ⟨#[116, 97, 98]⟩, .string ⟨#[98, 97, 99, 107, 116, 97, 98]⟩, .string ⟨#[101, 115, 99, 97, 112, 101]⟩, .string ⟨#[98, 97, 99, 107, 115, 112, 97, 99, 101]⟩, .string ⟨#[100, 101, 108, 101, 116, 101]⟩, .string ⟨#[117, 112]⟩, .string ⟨#[100, 111, 119, 110]⟩, .string ⟨#[108, 101, 102, 116]⟩, .string ⟨#[114, 105, 103, 104, 116]⟩, .string ⟨#[104, 111, 109, 101]⟩, .string ⟨#[101, 110, 100]⟩, .string ⟨#[112, 97, 103, 101, 117, 112]⟩, .string ⟨#[112, 97, 103, 101, 100, 111, 119, 110]⟩, .string ⟨#[112, 97, 115, 116, 101]⟩] 9)).heap.size = w.heap.size + 1 + 1 := by simp
    rw [hz] at this
    exact run_str_sl _ _ _ 1 1 [50] this rfl
  go_enter Tryd.func29, Tryd.ntmps29
  go_wp2_with (fail)
  go_ret
  exact ⟨rfl, kbel3 _ _ _ _⟩
set_option maxRecDepth 100000 in
set_option maxHeartbeats 4000000 in
theorem rbase_any (k : Kv) (hs : k.s.length ≤ 140737488351232) (w : World) :
    Calls Tryd.prog 29 #[.agg #[.int .i64 k.c, .string ⟨k.s.toArray⟩, .int .i64 k.n, .bool k.a, .bool k.h, .bool k.t]] w fun e w' => e = .returned (.string ⟨(baseN k).toArray⟩) ∧ Below w.heap.size w w' := by
  obtain ⟨c, s, n, a, h, t⟩ := k
  obtain ⟨R, hR⟩ : ∃ R : ByteArray, R = ⟨(baseN ⟨c, s, n, a, h, t⟩).toArray⟩ := ⟨_, rfl⟩
  rw [← hR]
  have HR := Lib.hid hR
  clear hR
  obtain ⟨b, hb⟩ : ∃ b : ByteArray, b = ⟨s.toArray⟩ := ⟨_, rfl⟩
  have hsz : b.size = s.length := by rw [hb]; simp [ByteArray.size]
  have HB := Lib.hid hb
  show Calls _ _ #[.agg #[.int .i64 c, .string ⟨s.toArray⟩, .int .i64 n, .bool a, .bool h, .bool t]] w _
  rw [← hb]
  clear hb
  have hs' : s.length ≤ 140737488351232 := hs
  clear hs
  by_cases h17 : c = 17
  · subst h17
    have HE : Hid (R = ⟨#[99, 116, 114, 108, 45]⟩ ++ b) := Lib.hid (by rw [HR.out, HB.out, show (⟨#[99, 116, 114, 108, 45]⟩ : ByteArray) = ⟨[99, 116, 114, 108, 45].toArray⟩ from rfl, cat_arr]; rfl)
    go_enter Tryd.func29, Tryd.ntmps29
    go_wp2_with (fail)
    go_ret
    exact ⟨by rw [HE.out]; rfl, kbel2 _ _ _⟩
  have i17 : (c == 17) = false := by simpa using h17
  by_cases hi : 1 ≤ c ∧ c ≤ 16
  · obtain ⟨i, rfl⟩ : ∃ i : Nat, c = i := ⟨c.toNat, by omega⟩
    have h18 : ¬ ((i : Int) = 18 ∧ 1 ≤ n ∧ n ≤ 12) := by omega
    have HE : Hid (R = ⟨(nameT.getD i []).toArray⟩) := Lib.hid (by rw [HR.out]; unfold baseN; rw [if_neg h17, if_neg h18, if_pos hi]; rfl)
    have hx : ((w.alloc (.cells #[.int .i64 i, .string b, .int .i64 n, .bool a, .bool h, .bool t] 40)).alloc (.cells #[.string ⟨#[]⟩, .string ⟨#[116, 101, 120, 116]⟩, .string ⟨#[101, 110, 116, 101, 114]⟩, .string ⟨#[116, 97, 98]⟩, .string ⟨#[98, 97, 99, 107, 116, 97, 98]⟩, .string ⟨#[101, 115, 99, 97, 112, 101]⟩, .string ⟨#[98, 97, 99, 107, 115, 112, 97, 99, 101]⟩, .string ⟨#[100, 101, 108, 101, 116, 101]⟩, .string ⟨#[117, 112]⟩, .string ⟨#[100, 111, 119, 110]⟩, .string ⟨#[108, 101, 102, 116]⟩, .string ⟨#[114, 105, 103, 104, 116]⟩, .string ⟨#[104, 111, 109, 101]⟩, .string ⟨#[101, 110, 100]⟩, .string ⟨#[112, 97, 103, 101, 117, 112]⟩, .string ⟨#[112, 97, 103, 101, 100, 111, 119, 110]⟩, .string ⟨#[112, 97, 115, 116, 101]⟩] 9)).cell? ⟨w.heap.size + 1, i, none⟩ = some (.string ⟨(nameT.getD i []).toArray⟩) := by
      have hblk := Blk.new (w.alloc (.cells #[.int .i64 i, .string b, .int .i64 n, .bool a, .bool h, .bool t] 40)) 9 (nameT.map strV)
      have := hblk.cell i
      have hil : i < 17 := by omega
      have e : (nameT.map strV)[i]? = some (.string ⟨(nameT.getD i []).toArray⟩) := by
        have : ∀ i, i < 17 → (nameT.map strV)[i]? = some (strV (nameT.getD i [])) := by
          intro i hi
          rw [List.getElem?_map, List.getD_eq_getElem?_getD, List.getElem?_eq_getElem (show i < nameT.length from hi)]
          rfl
        exact this i hil
      have hz : (w.alloc (.cells #[.int .i64 i, .string b, .int .i64 n, .bool a, .bool h, .bool t] 40)).heap.size = w.heap.size + 1 := by simp
      rw [e, hz] at this
      exact this
    obtain ⟨d, hd⟩ : ∃ d : ByteArray, d = ⟨(nameT.getD i []).toArray⟩ := ⟨_, rfl⟩
    rw [← hd] at HE hx
    have hi1 : 1 ≤ (i : Int) := by omega
    have hi2 : (i : Int) < 17 := by omega
    clear hd h17 h18 hi
    go_enter Tryd.func29, Tryd.ntmps29
    go_wp2_with (fail)
    go_ret
    exact ⟨by rw [HE.out]; rfl, kbel2 _ _ _⟩
  by_cases h18 : c = 18 ∧ 1 ≤ n ∧ n ≤ 12
  · obtain ⟨rfl, hn1, hn2⟩ := h18
    have hn : n = 1 ∨ n = 2 ∨ n = 3 ∨ n = 4 ∨ n = 5 ∨ n = 6 ∨ n = 7 ∨ n = 8 ∨ n = 9 ∨ n = 10 ∨ n = 11 ∨ n = 12 := by omega
    rcases hn with rfl | rfl | rfl | rfl | rfl | rfl | rfl | rfl | rfl | rfl | rfl | rfl
    · have e : baseN ⟨18, s, 1, a, h, t⟩ = [102, 49] := by unfold baseN; simp [Lib.decDigits]
      refine (rbase_1 b a h t w).mono ?_
      rintro e' w' ⟨rfl, hb⟩
      exact ⟨by rw [HR.out, e], hb⟩
    · have e : baseN ⟨18, s, 2, a, h, t⟩ = [102, 50] := by unfold baseN; simp [Lib.decDigits]
      refine (rbase_2 b a h t w).mono ?_
      rintro e' w' ⟨rfl, hb⟩
      exact ⟨by rw [HR.out, e], hb⟩
    · have e : baseN ⟨18, s, 3, a, h, t⟩ = [102, 51] := by unfold baseN; simp [Lib.decDigits]
      refine (rbase_3 b a h t w).mono ?_
      rintro e' w' ⟨rfl, hb⟩
      exact ⟨by rw [HR.out, e], hb⟩
    · have e : baseN ⟨18, s, 4, a, h, t⟩ = [102, 52] := by unfold baseN; simp [Lib.decDigits]
      refine (rbase_4 b a h t w).mono ?_
      rintro e' w' ⟨rfl, hb⟩
      exact ⟨by rw [HR.out, e], hb⟩
    · have e : baseN ⟨18, s, 5, a, h, t⟩ = [102, 53] := by unfold baseN; simp [Lib.decDigits]
      refine (rbase_5 b a h t w).mono ?_
      rintro e' w' ⟨rfl, hb⟩
      exact ⟨by rw [HR.out, e], hb⟩
    · have e : baseN ⟨18, s, 6, a, h, t⟩ = [102, 54] := by unfold baseN; simp [Lib.decDigits]
      refine (rbase_6 b a h t w).mono ?_
      rintro e' w' ⟨rfl, hb⟩
      exact ⟨by rw [HR.out, e], hb⟩
    · have e : baseN ⟨18, s, 7, a, h, t⟩ = [102, 55] := by unfold baseN; simp [Lib.decDigits]
      refine (rbase_7 b a h t w).mono ?_
      rintro e' w' ⟨rfl, hb⟩
      exact ⟨by rw [HR.out, e], hb⟩
    · have e : baseN ⟨18, s, 8, a, h, t⟩ = [102, 56] := by unfold baseN; simp [Lib.decDigits]
      refine (rbase_8 b a h t w).mono ?_
      rintro e' w' ⟨rfl, hb⟩
      exact ⟨by rw [HR.out, e], hb⟩
    · have e : baseN ⟨18, s, 9, a, h, t⟩ = [102, 57] := by unfold baseN; simp [Lib.decDigits]
      refine (rbase_9 b a h t w).mono ?_
      rintro e' w' ⟨rfl, hb⟩
      exact ⟨by rw [HR.out, e], hb⟩
    · have e : baseN ⟨18, s, 10, a, h, t⟩ = [102, 49, 48] := by unfold baseN; simp [Lib.decDigits]
      refine (rbase_10 b a h t w).mono ?_
      rintro e' w' ⟨rfl, hb⟩
      exact ⟨by rw [HR.out, e], hb⟩
    · have e : baseN ⟨18, s, 11, a, h, t⟩ = [102, 49, 49] := by unfold baseN; simp [Lib.decDigits]
      refine (rbase_11 b a h t w).mono ?_
      rintro e' w' ⟨rfl, hb⟩
      exact ⟨by rw [HR.out, e], hb⟩
    · have e : baseN ⟨18, s, 12, a, h, t⟩ = [102, 49, 50] := by unfold baseN; simp [Lib.decDigits]
      refine (rbase_12 b a h t w).mono ?_
      rintro e' w' ⟨rfl, hb⟩
      exact ⟨by rw [HR.out, e], hb⟩
  have HE : Hid (R = ⟨#[]⟩) := Lib.hid (by rw [HR.out]; unfold baseN; rw [if_neg h17, if_neg h18, if_neg hi])
  have hc : (c ≤ 0 ∧ ¬ c = 18) ∨ (c = 18 ∧ n < 1) ∨ (c = 18 ∧ ¬ n < 1 ∧ 12 < n) ∨ (18 < c ∧ ¬ c = 18) := by omega
  clear h18 hi h17
  rcases hc with ⟨h1, h2⟩ | ⟨rfl, h2⟩ | ⟨rfl, h1, h2⟩ | ⟨h1, h2⟩
  · have i18 : (c == 18) = false := by simpa using h2
    clear h2
    go_enter Tryd.func29, Tryd.ntmps29
    go_wp2_with (fail)
    go_ret
    exact ⟨by rw [HE.out]; rfl, kbel2 _ _ _⟩
  · have h3 : ¬ 10 ≤ n := by omega
    go_enter Tryd.func29, Tryd.ntmps29
    go_wp2_with (fail)
    go_ret
    exact ⟨by rw [HE.out]; rfl, kbel2 _ _ _⟩
  · have h3 : 10 ≤ n := by omega
    have h4 : ¬ n ≤ 9 := by omega
    go_enter Tryd.func29, Tryd.ntmps29
    go_wp2_with (fail)
    go_ret
    exact ⟨by rw [HE.out]; rfl, kbel2 _ _ _⟩
  · have i18 : (c == 18) = false := by simpa using h2
    have h3 : ¬ c < 17 := by omega
    have h4 : 1 ≤ c := by omega
    clear h2
    go_enter Tryd.func29, Tryd.ntmps29
    go_wp2_with (fail)
    go_ret
    exact ⟨by rw [HE.out]; rfl, kbel2 _ _ _⟩
set_option maxRecDepth 100000 in
set_option maxHeartbeats 8000000 in
theorem rname_any (k : Kv) (hs : k.s.length ≤ 140737488351232) (w : World) :
    Calls Tryd.prog 18 #[.agg #[.int .i64 k.c, .string ⟨k.s.toArray⟩, .int .i64 k.n, .bool k.a, .bool k.h, .bool k.t]] w fun e w' => e = .returned (.string ⟨(nameK k).toArray⟩) ∧ Below w.heap.size w w' := by
  have hlen := baseN_len k hs
  have HQ := Lib.hid (fun W (hW : Below w.heap.size w W) => rbase_any k hs W)
  obtain ⟨N, hN⟩ : ∃ N : ByteArray, N = ⟨(baseN k).toArray⟩ := ⟨_, rfl⟩
  rw [← hN] at HQ
  have hNs : N.size ≤ 140737488351237 := by rw [hN]; simpa [ByteArray.size] using hlen
  have hNl : N.toList = baseN k := by rw [hN, Lib.toList_data]
  have HW : Hid (Below w.heap.size w (w.alloc (.cells #[.int .i64 k.c, .string ⟨k.s.toArray⟩, .int .i64 k.n, .bool k.a, .bool k.h, .bool k.t] 40))) := Lib.hid (kbel _ _)
  have HBK : Hid (Blk (w.alloc (.cells #[.int .i64 k.c, .string ⟨k.s.toArray⟩, .int .i64 k.n, .bool k.a, .bool k.h, .bool k.t] 40)) w.heap.size 40 k.cells) := Lib.hid (Blk.new w 40 k.cells)
  obtain ⟨R, hR⟩ : ∃ R : ByteArray, R = ⟨(nameK k).toArray⟩ := ⟨_, rfl⟩
  rw [← hR]
  have HR := Lib.hid hR
  have HN := Lib.hid hN
  clear hR hN hlen hs
  have hl0 : (w.alloc (.cells #[.int .i64 k.c, .string ⟨k.s.toArray⟩, .int .i64 k.n, .bool k.a, .bool k.h, .bool k.t] 40)).cell? ⟨w.heap.size, 0, none⟩ = some (.int .i64 k.c) := HBK.out.cell 0
  by_cases h0 : baseN k = []
  · have HE : Hid (R = ⟨#[]⟩) := Lib.hid (by rw [HR.out]; unfold nameK; rw [if_pos h0])
    have hE1 : N.toList.isEmpty = true := by rw [hNl, h0]; rfl
    have hE2 : N.toList = [] := by rw [hNl, h0]
    clear h0 hNl hl0
    go_enter Tryd.func18, Tryd.ntmps18
    go_wp2_with (go_at_call 29; refine (HQ.out _ HW.out).mono ?_; rintro e w1 ⟨rfl, hb1⟩; have HB1 := Lib.hid (kstep HW.out hb1); clear hb1)
    go_ret
    exact ⟨by rw [HE.out]; rfl, HB1.out⟩
  · have hE1 : N.toList.isEmpty = false := by
      rw [hNl]
      cases hb : baseN k with
      | nil => exact absurd hb h0
      | cons => rfl
    have HE : Hid (R = ⟨((if k.a = true then [97, 108, 116, 45] else []) ++ ((if k.t = true then [99, 116, 108, 45] else []) ++ ((if k.h = true then [115, 104, 105, 102, 116, 45] else []) ++ baseN k))).toArray⟩) := Lib.hid (by rw [HR.out]; unfold nameK; rw [if_neg h0])
    clear h0 hNl hl0
    cases ha : k.a <;> cases hh : k.h <;> cases ht : k.t
    all_goals
      rw [ha, hh, ht] at HE
      have HF := Lib.hid ha
      have HG := Lib.hid hh
      have HJ := Lib.hid ht
      rw [ha, hh, ht] at HQ HW HBK
      clear ha hh ht
      go_enter Tryd.func18, Tryd.ntmps18
      go_wp2_with (go_at_call 29; refine (HQ.out _ HW.out).mono ?_; rintro e w1 ⟨rfl, hb1⟩; have HB1 := Lib.hid (kstep HW.out hb1); have hk1 := HBK.out.below hb1 HBK.out.lt; have c3 := hk1.cell 3; have c4 := hk1.cell 4; have c5 := hk1.cell 5; simp only [Kv.cells, List.getElem?_cons_succ, List.getElem?_cons_zero, HF.out, HG.out, HJ.out] at c3 c4 c5; clear hb1 hk1)
      go_ret
      refine ⟨?_, HB1.out⟩
      rw [HE.out, HN.out]
      simp only [cat_arr]
      rfl
end Go.Proofs.YteolafeeggjblaaDoor
