/-
  Contracts of ins: Right of any instruction; Jumps.
-/
import Derived.Test.YtlchimbaclenaaaInsE
namespace Go.Proofs.Ytlchimbaclenaaa.ins
open Go.RowKit Go.Proofs.Ytlchimbaclenaaa.mem Go.Proofs.Ytlchimbaclenaaa.kit
set_option linter.unusedVariables false

theorem has_0 : has 0 1 = false := by decide +kernel
theorem ok_0 (i : In) (h : i.op < 1 ∨ 28 < i.op) : ok i = false := by
  unfold ok
  rw [if_neg (by omega), if_neg (by omega), if_neg (by omega), if_neg (by omega), if_neg (by omega), if_neg (by omega), if_neg (by omega)]

theorem any_no (w : World) : Calls Try.prog 41 #[.int .u8 0, .int .u8 1] w fun e w' => e = .returned (.bool false) ∧ w' = w :=
  (any_any 0 1 w).mono fun e w' ⟨he, hw⟩ => ⟨by rw [he, has_0], hw.symm⟩

set_option maxRecDepth 100000 in
set_option maxHeartbeats 2000000 in
theorem right_none (o : Int) (n : Bool) (d s : Int) (u : Bool) (f m z : Int) (w : World) (h : o < 1 ∨ 28 < o) :
    Calls Try.prog 25 #[.agg #[.int .u8 o, .bool n, .int .i64 d, .int .i64 s, .bool u, .int .i64 f, .int .i64 m, .int .i64 z]] w fun e w' => e = .returned (.bool false) ∧ New w w' := by
  have HF := Lib.hid (fld_0 h)
  have h1 := has_0
  have hN := new1 w (.cells #[.int .u8 o, .bool n, .int .i64 d, .int .i64 s, .bool u, .int .i64 f, .int .i64 m, .int .i64 z] 34)
  have HN := Lib.hid hN
  clear hN h
  go_enter Try.func25, Try.ntmps25
  go_wp2_with (go_at_call 40; refine (fieldsOf_any _ _).mono ?_; rintro e w1 ⟨rfl, rfl⟩; rw [HF.out])
  go_quiet ((go_at_call 41; exact Calls.quiet_of_same (any_no _)))
  go_wp2
  go_ret
  exact ⟨rfl, New.drewN HN.out _⟩

theorem Right_any (i : In) (w : World) : Calls Try.prog 25 #[i.val] w fun e w' => e = .returned (.bool (ok i)) ∧ New w w' := by
  obtain ⟨o, n, d, s, u, f, m, z⟩ := i
  unfold In.val
  rcases ops_cases o with ⟨h0, h1⟩ | rfl | rfl | rfl | rfl | ⟨h0, h1⟩ | rfl | h
  · cases u
    · exact right_147r o n d s f m z h0 h1 w
    · exact right_147i o n d s f m z h0 h1 w
  · exact right_131 n d s u f m z w
  · exact right_107 n d s u f m z w
  · cases u
    · exact right_117r n d s f m z w
    · exact right_117i n d s f m z w
  · exact right_33 n d s u f m z w
  · cases u
    · exact right_181r o n d s f m z h0 h1 w
    · exact right_181i o n d s f m z h0 h1 w
  · exact right_1 n d s u f m z w
  · rw [ok_0 _ h]
    exact right_none o n d s u f m z w h

theorem Jumps_any (i : In) (w : World) : Calls Try.prog 26 #[i.val] w fun e w' => e = .returned (.bool (jumps i)) ∧ New w w' := by
  obtain ⟨o, n, d, s, u, f, m, z⟩ := i
  unfold In.val
  have hN := new1 w (.cells #[.int .u8 o, .bool n, .int .i64 d, .int .i64 s, .bool u, .int .i64 f, .int .i64 m, .int .i64 z] 34)
  have HN := Lib.hid hN
  clear hN
  by_cases h0 : 16 ≤ o
  · by_cases h1 : o ≤ 27
    · have H : Hid (jumps ⟨o, n, d, s, u, f, m, z⟩ = true) := Lib.hid (by simp [jumps, h0, h1])
      go_enter Try.func26, Try.ntmps26
      go_wp2
      go_ret
      exact ⟨ret_bool H.out.symm, HN.out⟩
    · have H : Hid (jumps ⟨o, n, d, s, u, f, m, z⟩ = false) := Lib.hid (by simp [jumps, h0, h1])
      go_enter Try.func26, Try.ntmps26
      go_wp2
      go_ret
      exact ⟨ret_bool H.out.symm, HN.out⟩
  · have H : Hid (jumps ⟨o, n, d, s, u, f, m, z⟩ = false) := Lib.hid (by simp [jumps, h0])
    go_enter Try.func26, Try.ntmps26
    go_wp2
    go_ret
    exact ⟨ret_bool H.out.symm, HN.out⟩
end Go.Proofs.Ytlchimbaclenaaa.ins
