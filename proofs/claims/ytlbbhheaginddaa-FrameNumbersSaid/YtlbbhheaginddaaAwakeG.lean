/-
  The frames' laws: awake's walk.
-/
import Derived.Test.YtlbbhheaginddaaAwake
import Derived.Lib.SlBytesConst
namespace Go.Proofs.Ytlbbhheaginddaa.fr
open Go.RowKit Go.Proofs.Ytlbbhheaginddaa.mem Go.Proofs.Ytlbbhheaginddaa.kit Go.Proofs.Ytlbbhheaginddaa.wire Go.Proofs.Ytlbbhheaginddaa.crc
set_option linter.unusedVariables false

theorem ex_sumc (c : Nat) (w : World) : Calls Try.prog 26 #[.slice (some ⟨w.heap.size, 0, none⟩) 9 c] (w.alloc (.cells #[.int .u8 49, .int .u8 50, .int .u8 51, .int .u8 52, .int .u8 53, .int .u8 54, .int .u8 55, .int .u8 56, .int .u8 57] 5 (9, 10))) fun e w' => e = .returned (.int .u32 3808858755) ∧ New w w' := by
  have h := sum_any (some ⟨w.heap.size, 0, none⟩) c [49, 50, 51, 52, 53, 54, 55, 56, 57] (w.alloc (.cells #[.int .u8 49, .int .u8 50, .int .u8 51, .int .u8 52, .int .u8 53, .int .u8 54, .int .u8 55, .int .u8 56, .int .u8 57] 5 (9, 10))) (by simp) (reads_mark w _ _)
  rw [ex_sum] at h
  exact h.mono fun e w' k => ⟨k.1, New.then (alloc_new w _) k.2⟩

set_option maxRecDepth 100000 in
set_option maxHeartbeats 4000000 in
theorem awake_any (w : World) : Calls Try.prog 10 #[] w fun e w' => e = .returned (.bool true) ∧ New w w' := by
  have HP := Lib.hid (ex_put w)
  have kc := fun (w : World) (C : Array Value) (n c : Nat) => Lib.run_convert_bytes_const (P := Try.prog) w 24 5 C n c Try.underlying24 Try.underlying5
  go_enter Try.func10, Try.ntmps10
  go_wp2_with (first
    | (go_at_call 5; (with_reducible refine HP.out.mono ?_); rintro e w3 ⟨g3, c3, rfl, hc3, k0, k4, k9, hr3, hn3⟩; have HC3 := Lib.hid hc3; have HR3 := Lib.hid hr3; have HN3 := Lib.hid hn3; have HS1 := Lib.hid (ex_scan1 _ c3 w3 hc3 hr3); clear hc3 hr3 hn3)
    | (go_at_call 6; (with_reducible refine HS1.out.mono ?_); rintro e w4 ⟨A4, c4, rfl, hn4⟩; have HR4 := Lib.hid (HR3.out.new hn4); have HN4 := Lib.hid (New.then HN3.out hn4); have HS2 := Lib.hid (ex_scan2 _ c3 w4 HC3.out HR4.out); clear hn4 k0 k4 k9; have hc9 : (9 : Int) ≤ (c3 : Int) := by have := HC3.out.1; omega)
    | (go_at_call 6; (with_reducible refine HS2.out.mono ?_); rintro e w5 ⟨A5, c5, rfl, hn5⟩; have HR5 := Lib.hid (HR4.out.new hn5); have HN5 := Lib.hid (New.then HN4.out hn5); clear hn5)
    | (at_builtin; refine wpList_ac (w0 := w5) (z := []) (l := fbs [exF]) (by rfl) (.tmp 59) (.tmp 60) (by rfl) (Ac.made w5 w5 (new_refl w5)) (by rfl) (by simp only [ex_len, Act.eval]; rfl) (by rw [ex_len]; exact HR5.out.new (alloc_new w5 _)) (by rw [ex_len]; simp) ?_; intro v6 w6 hac6; obtain ⟨g6, c6, rfl, hc6, hg6, k6, z6, hr6⟩ := ex_row hac6; have HC6 := Lib.hid hc6; have HG6 := Lib.hid hg6; have HR6 := Lib.hid hr6; have HN6 := Lib.hid (New.then HN5.out hac6.new); have HS3 := Lib.hid (ex_scan3 _ c6 _ hc6 hr6); clear hc6 hg6 hr6 hac6)
    | (go_at_call 6; (with_reducible refine HS3.out.mono ?_); rintro e w8 ⟨A8, n8, c8, u8, rfl, hn8⟩; have HN8 := Lib.hid (New.then (HN6.out.setCell (p := ⟨g6, 9, none⟩) (Nat.le_trans HN5.out.size HG6.out) _) hn8); have HSM := Lib.hid (ex_sumc 9 w8); clear hn8)
    | (go_at_call 26; (with_reducible refine HSM.out.mono ?_); rintro e w9 ⟨rfl, hn9⟩; have HN9 := Lib.hid (New.then HN8.out hn9)))
  go_ret
  exact ⟨rfl, HN9.out⟩
end Go.Proofs.Ytlbbhheaginddaa.fr
