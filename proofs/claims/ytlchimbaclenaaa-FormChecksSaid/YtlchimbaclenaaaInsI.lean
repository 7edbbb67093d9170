/-
  Contracts of the document's answer for ins: what it calls to tell what is right.
-/
import Derived.Test.YtlchimbaclenaaaInsF
namespace Go.Proofs.Ytlchimbaclenaaa.ins
open Go.RowKit Go.Proofs.Ytlchimbaclenaaa.mem Go.Proofs.Ytlchimbaclenaaa.kit
set_option linter.unusedVariables false

theorem target_any (n : Int) (w : World) : Calls Try.prog 33 #[.int .i64 n] w fun e w' => e = .returned (.bool (tgt n)) ∧ w = w' := by
  by_cases h0 : 0 ≤ n
  · by_cases h1 : n ≤ 9
    · have H : Hid (tgt n = true) := Lib.hid (by simp [tgt, h0, h1])
      go_enter Try.func33, Try.ntmps33
      go_wp2
      go_ret
      exact ⟨ret_bool H.out.symm, rfl⟩
    · have H : Hid (tgt n = false) := Lib.hid (by simp [tgt, h0, h1])
      go_enter Try.func33, Try.ntmps33
      go_wp2
      go_ret
      exact ⟨ret_bool H.out.symm, rfl⟩
  · have H : Hid (tgt n = false) := Lib.hid (by simp [tgt, h0])
    go_enter Try.func33, Try.ntmps33
    go_wp2
    go_ret
    exact ⟨ret_bool H.out.symm, rfl⟩
theorem register_any (n : Int) (w : World) : Calls Try.prog 35 #[.int .i64 n] w fun e w' => e = .returned (.bool (reg n)) ∧ w = w' := by
  by_cases h0 : 0 ≤ n
  · by_cases h1 : n ≤ 10
    · have H : Hid (reg n = true) := Lib.hid (by simp [reg, h0, h1])
      go_enter Try.func35, Try.ntmps35
      go_wp2
      go_ret
      exact ⟨ret_bool H.out.symm, rfl⟩
    · have H : Hid (reg n = false) := Lib.hid (by simp [reg, h0, h1])
      go_enter Try.func35, Try.ntmps35
      go_wp2
      go_ret
      exact ⟨ret_bool H.out.symm, rfl⟩
  · have H : Hid (reg n = false) := Lib.hid (by simp [reg, h0])
    go_enter Try.func35, Try.ntmps35
    go_wp2
    go_ret
    exact ⟨ret_bool H.out.symm, rfl⟩

theorem far_any (o : Int) (n : Bool) (d s : Int) (u : Bool) (f m z : Int) (w : World) : Calls Try.prog 36 #[.agg #[.int .u8 o, .bool n, .int .i64 d, .int .i64 s, .bool u, .int .i64 f, .int .i64 m, .int .i64 z]] w fun e w' => e = .returned (.bool (far f)) ∧ New w w' := by
  have HN := Lib.hid (new1 w (.cells #[.int .u8 o, .bool n, .int .i64 d, .int .i64 s, .bool u, .int .i64 f, .int .i64 m, .int .i64 z] 34))
  by_cases h0 : -32768 ≤ f
  · by_cases h1 : f ≤ 32767
    · have H : Hid (far f = true) := Lib.hid (by simp [far, h0, h1])
      have h2 : f < 32768 := by omega
      go_enter Try.func36, Try.ntmps36
      go_wp2
      go_ret
      exact ⟨ret_bool H.out.symm, HN.out⟩
    · have H : Hid (far f = false) := Lib.hid (by simp [far, h0, h1])
      have h2 : ¬ f < 32768 := by omega
      go_enter Try.func36, Try.ntmps36
      go_wp2
      go_ret
      exact ⟨ret_bool H.out.symm, HN.out⟩
  · have H : Hid (far f = false) := Lib.hid (by simp [far, h0])
    go_enter Try.func36, Try.ntmps36
    go_wp2
    go_ret
    exact ⟨ret_bool H.out.symm, HN.out⟩
theorem cond_any (o : Int) (n : Bool) (d s : Int) (u : Bool) (f m z : Int) (w : World) : Calls Try.prog 38 #[.agg #[.int .u8 o, .bool n, .int .i64 d, .int .i64 s, .bool u, .int .i64 f, .int .i64 m, .int .i64 z]] w fun e w' => e = .returned (.bool (cond ⟨o, n, d, s, u, f, m, z⟩)) ∧ New w w' := by
  have HN := Lib.hid (new1 w (.cells #[.int .u8 o, .bool n, .int .i64 d, .int .i64 s, .bool u, .int .i64 f, .int .i64 m, .int .i64 z] 34))
  by_cases h0 : 17 ≤ o
  · by_cases h1 : o ≤ 27
    · have H : Hid (cond ⟨o, n, d, s, u, f, m, z⟩ = true) := Lib.hid (by simp [cond, h0, h1])
      go_enter Try.func38, Try.ntmps38
      go_wp2
      go_ret
      exact ⟨ret_bool H.out.symm, HN.out⟩
    · have H : Hid (cond ⟨o, n, d, s, u, f, m, z⟩ = false) := Lib.hid (by simp [cond, h0, h1])
      go_enter Try.func38, Try.ntmps38
      go_wp2
      go_ret
      exact ⟨ret_bool H.out.symm, HN.out⟩
  · have H : Hid (cond ⟨o, n, d, s, u, f, m, z⟩ = false) := Lib.hid (by simp [cond, h0])
    go_enter Try.func38, Try.ntmps38
    go_wp2
    go_ret
    exact ⟨ret_bool H.out.symm, HN.out⟩
theorem sized_any (o : Int) (n : Bool) (d s : Int) (u : Bool) (f m z : Int) (w : World) : Calls Try.prog 37 #[.agg #[.int .u8 o, .bool n, .int .i64 d, .int .i64 s, .bool u, .int .i64 f, .int .i64 m, .int .i64 z]] w fun e w' => e = .returned (.bool (sizd z)) ∧ New w w' := by
  have HN := Lib.hid (new1 w (.cells #[.int .u8 o, .bool n, .int .i64 d, .int .i64 s, .bool u, .int .i64 f, .int .i64 m, .int .i64 z] 34))
  go_enter Try.func37, Try.ntmps37
  go_wp2
  all_goals
    go_ret
    refine ⟨ret_bool ?_, new1 w _⟩
    simp_all [sizd]
    try (rw [Bool.eq_iff_iff]; simp; omega)
theorem second_any (o : Int) (n : Bool) (d s : Int) (u : Bool) (f m z : Int) (w : World) : Calls Try.prog 34 #[.agg #[.int .u8 o, .bool n, .int .i64 d, .int .i64 s, .bool u, .int .i64 f, .int .i64 m, .int .i64 z]] w fun e w' => e = .returned (.bool (sec u s m)) ∧ New w w' := by
  have HN := Lib.hid (new1 w (.cells #[.int .u8 o, .bool n, .int .i64 d, .int .i64 s, .bool u, .int .i64 f, .int .i64 m, .int .i64 z] 34))
  cases u
  all_goals
    go_enter Try.func34, Try.ntmps34
    go_wp2_with (go_at_call 35; refine (register_any _ _).mono ?_; rintro e w1 ⟨rfl, rfl⟩)
    all_goals
      go_ret
      refine ⟨ret_bool ?_, new1 w _⟩
      simp_all [sec, fits]
      try (first | rfl | omega)
end Go.Proofs.Ytlchimbaclenaaa.ins
