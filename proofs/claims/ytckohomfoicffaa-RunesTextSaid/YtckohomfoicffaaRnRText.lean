/-
  Walks: the reference's Text, and both Valid.
-/
import Derived.Test.YtckohomfoicffaaRnRunes
import Derived.Test.YtckohomfoicffaaRnText
namespace Go.Proofs.Ytckohomfoicffaa
open Go.RowKit
set_option linter.unusedVariables false

theorem txt_take {R : List (Nat × Int)} {k : Nat} (h : k < R.length) : txt (R.take (k + 1)) = txt (R.take k) ++ enc (rfix R[k].2) := by
  rw [List.take_succ_eq_append_getElem h, txt_snoc]

set_option maxRecDepth 100000 in
set_option maxHeartbeats 2000000 in
theorem rtext_any (A : Option Addr) (n cap : Nat) (l : List UInt8) (w : World) (hn : n = l.length) (hm : l.length ≤ 100000) (hcap : n ≤ cap) (hcm : cap ≤ maxLen) (hS : Sl w w.heap.size A (bv l)) :
    Calls Try.prog 9 #[.slice A n cap] w fun e w' => e = .returned (.string ⟨(txt (rnsOf l)).toArray⟩) ∧ Below w.heap.size w w' := by
  subst hn
  have HS := Lib.hid hS
  have hle := rnsOf_le l
  clear hS
  go_enter Try.func9, Try.ntmps9
  go_wp2_with (fail)
  refine (runes_any A l.length cap l w rfl hm hcap hcm HS.out).mono ?_
  rintro e w1 ⟨A1, c1, A2, c2, rfl, h1, h2, hb1⟩
  generalize hR : rnsOf l = R at hle h1 h2
  have HR := Lib.hid hR
  have h1s := h1.sl
  have H1 := Lib.hid h1s
  have hs1 := hb1.size
  clear hR h2 h1s h1
  go_wp2
  go_loopw [3, 6] (fun v3 v6 wr => ∃ (k : Nat) (A3 : Option Addr) (n3 c3 : Nat), v6 = .int .i64 k ∧ k ≤ R.length ∧ v3 = .slice A3 n3 c3 ∧ n3 ≤ 4 * k ∧ OB wr w1.heap.size A3 n3 c3 (txt (R.take k)) ∧ Below w1.heap.size w1 wr) (fun _ v6 _ => R.length - (intOf v6).toNat)
  case atStart => exact ⟨0, none, 0, 0, rfl, by omega, rfl, by omega, OB.none_ _ _, Below.refl _ _⟩
  case round =>
    obtain ⟨k, A3, n3, c3, rfl, hk, rfl, hn3, h3, hbw⟩ := hrel
    by_cases hlt : k < R.length
    · have hlt' : (k : Int) < (R.length : Int) := by omega
      obtain ⟨b, off, rfl, hbb, hcell⟩ := H1.out.open_ (by simp [rv]; omega)
      have hx0 := hcell k (.int .i32 R[k].2) (by simp [rv, hlt])
      have hx : wr.cell? ⟨b, off + k, none⟩ = some (.int .i32 R[k].2) := (hbw.cell (p := ⟨b, off + k, none⟩) hbb).trans hx0
      have htk := Lib.hid (txt_take hlt)
      generalize hxv : R[k].2 = x at hx htk
      have hx4 := enc_le (rfix x)
      clear hx0 hxv hcell
      have hsw := hbw.size
      go_wp2_with (first
        | (go_at_call 17
           refine (rbytes_any x wr).mono ?_
           rintro e w' ⟨rfl, rfl⟩)
        | (at_builtin
           refine wpList_app_u8 _ rfl (.tmp 18) (.tmp 23) rfl w1.heap.size A3 n3 c3 (txt (R.take k)) rfl (h3.alloc _) _ (enc (rfix x)).length (enc (rfix x)).length (enc (rfix x)) (wr.heap.size + 1) rfl (by have := Sl.new wr (bv (enc (rfix x))).toArray 5; exact this) rfl (fun h => by cases h) (n3 + (enc (rfix x)).length) rfl (by omega) (by simp; omega) ?_
           intro A4 c4 w4 h4 hg4 hat4
           have hb4 : Below w1.heap.size w1 w4 := (hbw.alloc hsw _).grown hg4 (by simp; omega) (fun g hg => (h3.blk_lt g hg).1)))
      exact ⟨⟨k + 1, A4, n3 + (enc (rfix x)).length, c4, by go_num, by omega, rfl, by omega, by rw [htk.out]; exact h4, hb4⟩, by simp only [intOf]; omega⟩
    · have hge : ¬ (k : Int) < (R.length : Int) := by omega
      have he : R.take k = R := List.take_of_length_le (by omega)
      rw [he] at h3
      have hcv := run_str_sl wr wr.heap.size A3 n3 c3 (txt R) h3.sl h3.len
      clear he
      go_wp2
      go_ret
      exact ⟨by rw [HR.out]; rfl, hb1.trans (hbw.mono hs1)⟩

set_option maxHeartbeats 400000 in
theorem valid_any (s : ByteArray) (w : World) (hs : s.size ≤ 100000) :
    Calls Try.prog 11 #[.string s] w fun e w' => e = .returned (.bool (txt (rnsOf s.data.toList) == s.toList)) ∧ Below w.heap.size w w' := by
  obtain ⟨cp, fr, hcv, _, _⟩ := run_bytes_str w s
  go_enter Try.func11, Try.ntmps11
  go_wp2_with (fail)
  have hSl := sl_bytesRow w.drew s cp 5 fr
  refine (text_any _ s.size cp s.data.toList (w.heap.size + 1) _ (by rfl) (by show s.data.toList.length ≤ _; exact hs) hSl (by simp)).mono ?_
  rintro e w1 ⟨rfl, hb⟩
  clear hcv hSl
  go_wp2
  go_ret
  exact ⟨rfl, ((Below.refl _ _).alloc (Nat.le_refl _) _).drew.trans (hb.mono (by simp))⟩
set_option maxHeartbeats 400000 in
theorem rvalid_any (s : ByteArray) (w : World) (hs : s.size ≤ 100000) :
    Calls Try.prog 12 #[.string s] w fun e w' => e = .returned (.bool (txt (rnsOf s.data.toList) == s.toList)) ∧ Below w.heap.size w w' := by
  obtain ⟨cp, fr, hcv, hc1, hc2⟩ := run_bytes_str w s
  have hc2' := hc2 (by simp only [maxLen]; omega)
  have H1 := Lib.hid hc1
  have H2 := Lib.hid hc2'
  clear hc1 hc2 hc2'
  go_enter Try.func12, Try.ntmps12
  go_wp2_with (fail)
  have hSl := sl_bytesRow w.drew s cp 5 fr
  refine (rtext_any _ s.size cp s.data.toList _ (by rfl) (by show s.data.toList.length ≤ _; exact hs) H1.out H2.out (hSl.more (by simp))).mono ?_
  rintro e w1 ⟨rfl, hb⟩
  clear hcv hSl
  go_wp2
  go_ret
  exact ⟨rfl, ((Below.refl _ _).alloc (Nat.le_refl _) _).drew.trans (hb.mono (by simp))⟩
end Go.Proofs.Ytckohomfoicffaa
