/-
  barbicanref01.Is and Wide answer what alu.Is and Wide answer.
-/
import Derived.Test.YtkegoiibhleflaaRefAll
namespace Go.Proofs.Ytkegoiibhleflaa.ref
open Go.ChangeShapes Go.WideShapes Go.ChangeAt Go.RowKit Go.Proofs.Ytkegoiibhleflaa.lit Go.Proofs.Ytkegoiibhleflaa.alu
set_option linter.unusedVariables false

theorem add_xor (W m : Nat) (hm : m < 2 ^ W) : 2 ^ W + m = 2 ^ W ^^^ m := by
  have h := Nat.two_pow_add_eq_or_of_lt hm 1
  rw [Nat.mul_one] at h
  rw [h]
  apply Nat.eq_of_testBit_eq
  intro i
  rw [Nat.testBit_or, Nat.testBit_xor, Nat.testBit_two_pow]
  by_cases hi : W = i
  · subst hi; simp [Nat.testBit_lt_two_pow hm]
  · simp [hi]

theorem xor_top (W n : Nat) (hn : n < 2 ^ W + 2 ^ W) : n ^^^ 2 ^ W = if 2 ^ W ≤ n then n - 2 ^ W else n + 2 ^ W := by
  split
  · rename_i h
    obtain ⟨m, rfl⟩ : ∃ m, n = 2 ^ W + m := ⟨n - 2 ^ W, by omega⟩
    rw [add_xor W m (by omega), Nat.xor_comm, ← Nat.xor_assoc, Nat.xor_self, Nat.zero_xor, ← add_xor W m (by omega)]
    omega
  · rename_i h
    rw [Nat.xor_comm, ← add_xor W n (by omega), Nat.add_comm]

theorem top64 (a : Int) (a0 : 0 ≤ a) (a1 : a ≤ 18446744073709551615) : bits BinOp.xor IntKind.u64 a 9223372036854775808 = wrap64 a + 9223372036854775808 := by
  obtain ⟨a, rfl⟩ := Int.eq_ofNat_of_zero_le a0
  rw [show (9223372036854775808 : Int) = ((2 ^ 63 : Nat) : Int) from rfl, u64_xor_nat _ _ (by omega) (by omega), xor_top 63 a (by omega)]
  unfold wrap64
  split <;> omega

theorem top32 (a : Int) (a0 : 0 ≤ a) : bits BinOp.xor IntKind.u64 (a % 4294967296) 2147483648 = wrap32 a + 2147483648 := by
  obtain ⟨a, rfl⟩ := Int.eq_ofNat_of_zero_le a0
  rw [show ((a : Int) % 4294967296) = ((a % 4294967296 : Nat) : Int) from rfl, show (2147483648 : Int) = ((2 ^ 31 : Nat) : Int) from rfl, u64_xor_nat _ _ (by omega) (by omega), xor_top 31 _ (by omega)]
  unfold wrap32
  split <;> omega

theorem Is17_wide (a b : Int) (w : World) (a0 : 0 ≤ a) (a1 : a ≤ 18446744073709551615) (b0 : 0 ≤ b) (b1 : b ≤ 18446744073709551615) :
    Calls Try.prog 12 #[.int .u8 17, .bool false, .int .u64 a, .int .u64 b] w fun e w' => e = .returned (.tuple #[.bool (a == b), .int .i64 0]) ∧ w = w' := by
  go_enter Try.func12, Try.ntmps12
  go_wp2_with (go_at_call 17; refine (each_any _ _ _ _ (by omega) (by omega) (by omega) (by omega)).mono ?_; rintro e w' ⟨rfl, rfl⟩)
  go_ret2
  exact ⟨rfl, rfl⟩

theorem Is18_wide (a b : Int) (w : World) (a0 : 0 ≤ a) (a1 : a ≤ 18446744073709551615) (b0 : 0 ≤ b) (b1 : b ≤ 18446744073709551615) :
    Calls Try.prog 12 #[.int .u8 18, .bool false, .int .u64 a, .int .u64 b] w fun e w' => e = .returned (.tuple #[.bool (a != b), .int .i64 0]) ∧ w = w' := by
  go_enter Try.func12, Try.ntmps12
  go_wp2_with (go_at_call 17; refine (each_any _ _ _ _ (by omega) (by omega) (by omega) (by omega)).mono ?_; rintro e w' ⟨rfl, rfl⟩)
  go_ret2
  exact ⟨rfl, rfl⟩

theorem Is19_wide (a b : Int) (w : World) (a0 : 0 ≤ a) (a1 : a ≤ 18446744073709551615) (b0 : 0 ≤ b) (b1 : b ≤ 18446744073709551615) :
    Calls Try.prog 12 #[.int .u8 19, .bool false, .int .u64 a, .int .u64 b] w fun e w' => e = .returned (.tuple #[.bool (decide (b < a)), .int .i64 0]) ∧ w = w' := by
  go_enter Try.func12, Try.ntmps12
  go_wp2_with (go_at_call 17; refine (each_any _ _ _ _ (by omega) (by omega) (by omega) (by omega)).mono ?_; rintro e w' ⟨rfl, rfl⟩)
  go_ret2
  exact ⟨rfl, rfl⟩

theorem Is20_wide (a b : Int) (w : World) (a0 : 0 ≤ a) (a1 : a ≤ 18446744073709551615) (b0 : 0 ≤ b) (b1 : b ≤ 18446744073709551615) :
    Calls Try.prog 12 #[.int .u8 20, .bool false, .int .u64 a, .int .u64 b] w fun e w' => e = .returned (.tuple #[.bool (decide (b ≤ a)), .int .i64 0]) ∧ w = w' := by
  go_enter Try.func12, Try.ntmps12
  go_wp2_with (go_at_call 17; refine (each_any _ _ _ _ (by omega) (by omega) (by omega) (by omega)).mono ?_; rintro e w' ⟨rfl, rfl⟩)
  go_ret2
  exact ⟨rfl, rfl⟩

theorem Is21_wide (a b : Int) (w : World) (a0 : 0 ≤ a) (a1 : a ≤ 18446744073709551615) (b0 : 0 ≤ b) (b1 : b ≤ 18446744073709551615) :
    Calls Try.prog 12 #[.int .u8 21, .bool false, .int .u64 a, .int .u64 b] w fun e w' => e = .returned (.tuple #[.bool (decide (a < b)), .int .i64 0]) ∧ w = w' := by
  go_enter Try.func12, Try.ntmps12
  go_wp2_with (go_at_call 17; refine (each_any _ _ _ _ (by omega) (by omega) (by omega) (by omega)).mono ?_; rintro e w' ⟨rfl, rfl⟩)
  go_ret2
  exact ⟨rfl, rfl⟩

theorem Is22_wide (a b : Int) (w : World) (a0 : 0 ≤ a) (a1 : a ≤ 18446744073709551615) (b0 : 0 ≤ b) (b1 : b ≤ 18446744073709551615) :
    Calls Try.prog 12 #[.int .u8 22, .bool false, .int .u64 a, .int .u64 b] w fun e w' => e = .returned (.tuple #[.bool (decide (a ≤ b)), .int .i64 0]) ∧ w = w' := by
  go_enter Try.func12, Try.ntmps12
  go_wp2_with (go_at_call 17; refine (each_any _ _ _ _ (by omega) (by omega) (by omega) (by omega)).mono ?_; rintro e w' ⟨rfl, rfl⟩)
  go_ret2
  exact ⟨rfl, rfl⟩

theorem Is23_wide (a b : Int) (w : World) (a0 : 0 ≤ a) (a1 : a ≤ 18446744073709551615) (b0 : 0 ≤ b) (b1 : b ≤ 18446744073709551615) :
    Calls Try.prog 12 #[.int .u8 23, .bool false, .int .u64 a, .int .u64 b] w fun e w' => e = .returned (.tuple #[.bool (decide (bits BinOp.xor IntKind.u64 b 9223372036854775808 < bits BinOp.xor IntKind.u64 a 9223372036854775808)), .int .i64 0]) ∧ w = w' := by
  go_enter Try.func12, Try.ntmps12
  go_wp2_with (go_at_call 17; refine (each_any _ _ _ _ (by omega) (by omega) (by omega) (by omega)).mono ?_; rintro e w' ⟨rfl, rfl⟩)
  go_ret2
  exact ⟨rfl, rfl⟩

theorem Is24_wide (a b : Int) (w : World) (a0 : 0 ≤ a) (a1 : a ≤ 18446744073709551615) (b0 : 0 ≤ b) (b1 : b ≤ 18446744073709551615) :
    Calls Try.prog 12 #[.int .u8 24, .bool false, .int .u64 a, .int .u64 b] w fun e w' => e = .returned (.tuple #[.bool (decide (bits BinOp.xor IntKind.u64 b 9223372036854775808 ≤ bits BinOp.xor IntKind.u64 a 9223372036854775808)), .int .i64 0]) ∧ w = w' := by
  go_enter Try.func12, Try.ntmps12
  go_wp2_with (go_at_call 17; refine (each_any _ _ _ _ (by omega) (by omega) (by omega) (by omega)).mono ?_; rintro e w' ⟨rfl, rfl⟩)
  go_ret2
  exact ⟨rfl, rfl⟩

theorem Is25_wide (a b : Int) (w : World) (a0 : 0 ≤ a) (a1 : a ≤ 18446744073709551615) (b0 : 0 ≤ b) (b1 : b ≤ 18446744073709551615) :
    Calls Try.prog 12 #[.int .u8 25, .bool false, .int .u64 a, .int .u64 b] w fun e w' => e = .returned (.tuple #[.bool (decide (bits BinOp.xor IntKind.u64 a 9223372036854775808 < bits BinOp.xor IntKind.u64 b 9223372036854775808)), .int .i64 0]) ∧ w = w' := by
  go_enter Try.func12, Try.ntmps12
  go_wp2_with (go_at_call 17; refine (each_any _ _ _ _ (by omega) (by omega) (by omega) (by omega)).mono ?_; rintro e w' ⟨rfl, rfl⟩)
  go_ret2
  exact ⟨rfl, rfl⟩

theorem Is26_wide (a b : Int) (w : World) (a0 : 0 ≤ a) (a1 : a ≤ 18446744073709551615) (b0 : 0 ≤ b) (b1 : b ≤ 18446744073709551615) :
    Calls Try.prog 12 #[.int .u8 26, .bool false, .int .u64 a, .int .u64 b] w fun e w' => e = .returned (.tuple #[.bool (decide (bits BinOp.xor IntKind.u64 a 9223372036854775808 ≤ bits BinOp.xor IntKind.u64 b 9223372036854775808)), .int .i64 0]) ∧ w = w' := by
  go_enter Try.func12, Try.ntmps12
  go_wp2_with (go_at_call 17; refine (each_any _ _ _ _ (by omega) (by omega) (by omega) (by omega)).mono ?_; rintro e w' ⟨rfl, rfl⟩)
  go_ret2
  exact ⟨rfl, rfl⟩

theorem Is27_wide (a b : Int) (w : World) (a0 : 0 ≤ a) (a1 : a ≤ 18446744073709551615) (b0 : 0 ≤ b) (b1 : b ≤ 18446744073709551615) :
    Calls Try.prog 12 #[.int .u8 27, .bool false, .int .u64 a, .int .u64 b] w fun e w' => e = .returned (.tuple #[.bool (((gather (eachF 6 (a) (b)) 64 : Nat) : Int) != 0), .int .i64 0]) ∧ w = w' := by
  go_enter Try.func12, Try.ntmps12
  go_wp2_with (go_at_call 17; refine (each_any _ _ _ _ (by omega) (by omega) (by omega) (by omega)).mono ?_; rintro e w' ⟨rfl, rfl⟩)
  go_ret2
  exact ⟨rfl, rfl⟩

theorem Is17_narrow (a b : Int) (w : World) (a0 : 0 ≤ a) (a1 : a ≤ 18446744073709551615) (b0 : 0 ≤ b) (b1 : b ≤ 18446744073709551615) :
    Calls Try.prog 12 #[.int .u8 17, .bool true, .int .u64 a, .int .u64 b] w fun e w' => e = .returned (.tuple #[.bool ((a % 4294967296) == (b % 4294967296)), .int .i64 0]) ∧ w = w' := by
  have hA := low_any a a0 a1
  have hB := low_any b b0 b1
  have a2 : 0 ≤ a % 4294967296 := by omega
  have a3 : a % 4294967296 ≤ 4294967295 := by omega
  have b2 : 0 ≤ b % 4294967296 := by omega
  have b3 : b % 4294967296 ≤ 4294967295 := by omega
  go_enter Try.func12, Try.ntmps12
  go_wp2_with (go_at_call 17; refine (each_any _ _ _ _ (by omega) (by omega) (by omega) (by omega)).mono ?_; rintro e w' ⟨rfl, rfl⟩)
  go_ret2
  exact ⟨rfl, rfl⟩

theorem Is18_narrow (a b : Int) (w : World) (a0 : 0 ≤ a) (a1 : a ≤ 18446744073709551615) (b0 : 0 ≤ b) (b1 : b ≤ 18446744073709551615) :
    Calls Try.prog 12 #[.int .u8 18, .bool true, .int .u64 a, .int .u64 b] w fun e w' => e = .returned (.tuple #[.bool ((a % 4294967296) != (b % 4294967296)), .int .i64 0]) ∧ w = w' := by
  have hA := low_any a a0 a1
  have hB := low_any b b0 b1
  have a2 : 0 ≤ a % 4294967296 := by omega
  have a3 : a % 4294967296 ≤ 4294967295 := by omega
  have b2 : 0 ≤ b % 4294967296 := by omega
  have b3 : b % 4294967296 ≤ 4294967295 := by omega
  go_enter Try.func12, Try.ntmps12
  go_wp2_with (go_at_call 17; refine (each_any _ _ _ _ (by omega) (by omega) (by omega) (by omega)).mono ?_; rintro e w' ⟨rfl, rfl⟩)
  go_ret2
  exact ⟨rfl, rfl⟩

theorem Is19_narrow (a b : Int) (w : World) (a0 : 0 ≤ a) (a1 : a ≤ 18446744073709551615) (b0 : 0 ≤ b) (b1 : b ≤ 18446744073709551615) :
    Calls Try.prog 12 #[.int .u8 19, .bool true, .int .u64 a, .int .u64 b] w fun e w' => e = .returned (.tuple #[.bool (decide ((b % 4294967296) < (a % 4294967296))), .int .i64 0]) ∧ w = w' := by
  have hA := low_any a a0 a1
  have hB := low_any b b0 b1
  have a2 : 0 ≤ a % 4294967296 := by omega
  have a3 : a % 4294967296 ≤ 4294967295 := by omega
  have b2 : 0 ≤ b % 4294967296 := by omega
  have b3 : b % 4294967296 ≤ 4294967295 := by omega
  go_enter Try.func12, Try.ntmps12
  go_wp2_with (go_at_call 17; refine (each_any _ _ _ _ (by omega) (by omega) (by omega) (by omega)).mono ?_; rintro e w' ⟨rfl, rfl⟩)
  go_ret2
  exact ⟨rfl, rfl⟩

theorem Is20_narrow (a b : Int) (w : World) (a0 : 0 ≤ a) (a1 : a ≤ 18446744073709551615) (b0 : 0 ≤ b) (b1 : b ≤ 18446744073709551615) :
    Calls Try.prog 12 #[.int .u8 20, .bool true, .int .u64 a, .int .u64 b] w fun e w' => e = .returned (.tuple #[.bool (decide ((b % 4294967296) ≤ (a % 4294967296))), .int .i64 0]) ∧ w = w' := by
  have hA := low_any a a0 a1
  have hB := low_any b b0 b1
  have a2 : 0 ≤ a % 4294967296 := by omega
  have a3 : a % 4294967296 ≤ 4294967295 := by omega
  have b2 : 0 ≤ b % 4294967296 := by omega
  have b3 : b % 4294967296 ≤ 4294967295 := by omega
  go_enter Try.func12, Try.ntmps12
  go_wp2_with (go_at_call 17; refine (each_any _ _ _ _ (by omega) (by omega) (by omega) (by omega)).mono ?_; rintro e w' ⟨rfl, rfl⟩)
  go_ret2
  exact ⟨rfl, rfl⟩

theorem Is21_narrow (a b : Int) (w : World) (a0 : 0 ≤ a) (a1 : a ≤ 18446744073709551615) (b0 : 0 ≤ b) (b1 : b ≤ 18446744073709551615) :
    Calls Try.prog 12 #[.int .u8 21, .bool true, .int .u64 a, .int .u64 b] w fun e w' => e = .returned (.tuple #[.bool (decide ((a % 4294967296) < (b % 4294967296))), .int .i64 0]) ∧ w = w' := by
  have hA := low_any a a0 a1
  have hB := low_any b b0 b1
  have a2 : 0 ≤ a % 4294967296 := by omega
  have a3 : a % 4294967296 ≤ 4294967295 := by omega
  have b2 : 0 ≤ b % 4294967296 := by omega
  have b3 : b % 4294967296 ≤ 4294967295 := by omega
  go_enter Try.func12, Try.ntmps12
  go_wp2_with (go_at_call 17; refine (each_any _ _ _ _ (by omega) (by omega) (by omega) (by omega)).mono ?_; rintro e w' ⟨rfl, rfl⟩)
  go_ret2
  exact ⟨rfl, rfl⟩

theorem Is22_narrow (a b : Int) (w : World) (a0 : 0 ≤ a) (a1 : a ≤ 18446744073709551615) (b0 : 0 ≤ b) (b1 : b ≤ 18446744073709551615) :
    Calls Try.prog 12 #[.int .u8 22, .bool true, .int .u64 a, .int .u64 b] w fun e w' => e = .returned (.tuple #[.bool (decide ((a % 4294967296) ≤ (b % 4294967296))), .int .i64 0]) ∧ w = w' := by
  have hA := low_any a a0 a1
  have hB := low_any b b0 b1
  have a2 : 0 ≤ a % 4294967296 := by omega
  have a3 : a % 4294967296 ≤ 4294967295 := by omega
  have b2 : 0 ≤ b % 4294967296 := by omega
  have b3 : b % 4294967296 ≤ 4294967295 := by omega
  go_enter Try.func12, Try.ntmps12
  go_wp2_with (go_at_call 17; refine (each_any _ _ _ _ (by omega) (by omega) (by omega) (by omega)).mono ?_; rintro e w' ⟨rfl, rfl⟩)
  go_ret2
  exact ⟨rfl, rfl⟩

theorem Is23_narrow (a b : Int) (w : World) (a0 : 0 ≤ a) (a1 : a ≤ 18446744073709551615) (b0 : 0 ≤ b) (b1 : b ≤ 18446744073709551615) :
    Calls Try.prog 12 #[.int .u8 23, .bool true, .int .u64 a, .int .u64 b] w fun e w' => e = .returned (.tuple #[.bool (decide (bits BinOp.xor IntKind.u64 (b % 4294967296) 2147483648 < bits BinOp.xor IntKind.u64 (a % 4294967296) 2147483648)), .int .i64 0]) ∧ w = w' := by
  have hA := low_any a a0 a1
  have hB := low_any b b0 b1
  have a2 : 0 ≤ a % 4294967296 := by omega
  have a3 : a % 4294967296 ≤ 4294967295 := by omega
  have b2 : 0 ≤ b % 4294967296 := by omega
  have b3 : b % 4294967296 ≤ 4294967295 := by omega
  go_enter Try.func12, Try.ntmps12
  go_wp2_with (go_at_call 17; refine (each_any _ _ _ _ (by omega) (by omega) (by omega) (by omega)).mono ?_; rintro e w' ⟨rfl, rfl⟩)
  go_ret2
  exact ⟨rfl, rfl⟩

theorem Is24_narrow (a b : Int) (w : World) (a0 : 0 ≤ a) (a1 : a ≤ 18446744073709551615) (b0 : 0 ≤ b) (b1 : b ≤ 18446744073709551615) :
    Calls Try.prog 12 #[.int .u8 24, .bool true, .int .u64 a, .int .u64 b] w fun e w' => e = .returned (.tuple #[.bool (decide (bits BinOp.xor IntKind.u64 (b % 4294967296) 2147483648 ≤ bits BinOp.xor IntKind.u64 (a % 4294967296) 2147483648)), .int .i64 0]) ∧ w = w' := by
  have hA := low_any a a0 a1
  have hB := low_any b b0 b1
  have a2 : 0 ≤ a % 4294967296 := by omega
  have a3 : a % 4294967296 ≤ 4294967295 := by omega
  have b2 : 0 ≤ b % 4294967296 := by omega
  have b3 : b % 4294967296 ≤ 4294967295 := by omega
  go_enter Try.func12, Try.ntmps12
  go_wp2_with (go_at_call 17; refine (each_any _ _ _ _ (by omega) (by omega) (by omega) (by omega)).mono ?_; rintro e w' ⟨rfl, rfl⟩)
  go_ret2
  exact ⟨rfl, rfl⟩

theorem Is25_narrow (a b : Int) (w : World) (a0 : 0 ≤ a) (a1 : a ≤ 18446744073709551615) (b0 : 0 ≤ b) (b1 : b ≤ 18446744073709551615) :
    Calls Try.prog 12 #[.int .u8 25, .bool true, .int .u64 a, .int .u64 b] w fun e w' => e = .returned (.tuple #[.bool (decide (bits BinOp.xor IntKind.u64 (a % 4294967296) 2147483648 < bits BinOp.xor IntKind.u64 (b % 4294967296) 2147483648)), .int .i64 0]) ∧ w = w' := by
  have hA := low_any a a0 a1
  have hB := low_any b b0 b1
  have a2 : 0 ≤ a % 4294967296 := by omega
  have a3 : a % 4294967296 ≤ 4294967295 := by omega
  have b2 : 0 ≤ b % 4294967296 := by omega
  have b3 : b % 4294967296 ≤ 4294967295 := by omega
  go_enter Try.func12, Try.ntmps12
  go_wp2_with (go_at_call 17; refine (each_any _ _ _ _ (by omega) (by omega) (by omega) (by omega)).mono ?_; rintro e w' ⟨rfl, rfl⟩)
  go_ret2
  exact ⟨rfl, rfl⟩

theorem Is26_narrow (a b : Int) (w : World) (a0 : 0 ≤ a) (a1 : a ≤ 18446744073709551615) (b0 : 0 ≤ b) (b1 : b ≤ 18446744073709551615) :
    Calls Try.prog 12 #[.int .u8 26, .bool true, .int .u64 a, .int .u64 b] w fun e w' => e = .returned (.tuple #[.bool (decide (bits BinOp.xor IntKind.u64 (a % 4294967296) 2147483648 ≤ bits BinOp.xor IntKind.u64 (b % 4294967296) 2147483648)), .int .i64 0]) ∧ w = w' := by
  have hA := low_any a a0 a1
  have hB := low_any b b0 b1
  have a2 : 0 ≤ a % 4294967296 := by omega
  have a3 : a % 4294967296 ≤ 4294967295 := by omega
  have b2 : 0 ≤ b % 4294967296 := by omega
  have b3 : b % 4294967296 ≤ 4294967295 := by omega
  go_enter Try.func12, Try.ntmps12
  go_wp2_with (go_at_call 17; refine (each_any _ _ _ _ (by omega) (by omega) (by omega) (by omega)).mono ?_; rintro e w' ⟨rfl, rfl⟩)
  go_ret2
  exact ⟨rfl, rfl⟩

theorem Is27_narrow (a b : Int) (w : World) (a0 : 0 ≤ a) (a1 : a ≤ 18446744073709551615) (b0 : 0 ≤ b) (b1 : b ≤ 18446744073709551615) :
    Calls Try.prog 12 #[.int .u8 27, .bool true, .int .u64 a, .int .u64 b] w fun e w' => e = .returned (.tuple #[.bool (((gather (eachF 6 ((a % 4294967296)) ((b % 4294967296))) 64 : Nat) : Int) != 0), .int .i64 0]) ∧ w = w' := by
  have hA := low_any a a0 a1
  have hB := low_any b b0 b1
  have a2 : 0 ≤ a % 4294967296 := by omega
  have a3 : a % 4294967296 ≤ 4294967295 := by omega
  have b2 : 0 ≤ b % 4294967296 := by omega
  have b3 : b % 4294967296 ≤ 4294967295 := by omega
  go_enter Try.func12, Try.ntmps12
  go_wp2_with (go_at_call 17; refine (each_any _ _ _ _ (by omega) (by omega) (by omega) (by omega)).mono ?_; rintro e w' ⟨rfl, rfl⟩)
  go_ret2
  exact ⟨rfl, rfl⟩

theorem Is_none (op : Int) (h : ¬ (17 ≤ op ∧ op ≤ 27)) (nar : Bool) (a b : Int) (w : World) :
    Calls Try.prog 12 #[.int .u8 op, .bool nar, .int .u64 a, .int .u64 b] w fun e w' => e = .returned (.tuple #[.bool false, .int .i64 2]) ∧ w = w' := by
  have h1 : (op == 17) = false ∧ (op == 18) = false ∧ (op == 19) = false ∧ (op == 20) = false ∧ (op == 21) = false ∧ (op == 22) = false ∧ (op == 23) = false ∧ (op == 24) = false ∧ (op == 25) = false ∧ (op == 26) = false ∧ (op == 27) = false := by
    refine ⟨?_, ?_, ?_, ?_, ?_, ?_, ?_, ?_, ?_, ?_, ?_⟩ <;> simp <;> omega
  obtain ⟨x17, x18, x19, x20, x21, x22, x23, x24, x25, x26, x27⟩ := h1
  have h2 : op < 23 ∨ 26 < op := by omega
  clear h
  rcases h2 with h2 | h2 <;> cases nar
  all_goals
    go_enter Try.func12, Try.ntmps12
    go_wp2
    go_ret2
    exact ⟨rfl, rfl⟩

theorem lt_shift (x y c : Int) : decide (x + c < y + c) = decide (x < y) := by
  by_cases h : x < y
  · rw [decide_eq_true h, decide_eq_true (by omega)]
  · rw [decide_eq_false h, decide_eq_false (by omega)]
theorem le_shift (x y c : Int) : decide (x + c ≤ y + c) = decide (x ≤ y) := by
  by_cases h : x ≤ y
  · rw [decide_eq_true h, decide_eq_true (by omega)]
  · rw [decide_eq_false h, decide_eq_false (by omega)]

/-- WHAT barbicanref01.Is ANSWERS. -/
theorem Is_any (op : Int) (nar : Bool) (a b : Int) (w : World) (a0 : 0 ≤ a) (a1 : a ≤ 18446744073709551615) (b0 : 0 ≤ b) (b1 : b ≤ 18446744073709551615) :
    Calls Try.prog 12 #[.int .u8 op, .bool nar, .int .u64 a, .int .u64 b] w fun e w' => e = .returned (.tuple #[.bool (isAns op nar a b), .int .i64 (isErr op)]) ∧ New w w' := by
  have ret : ∀ (x y : Bool) (e : Ending), e = .returned (.tuple #[.bool x, .int .i64 0]) → x = y → e = .returned (.tuple #[.bool y, .int .i64 0]) := fun x y e he hx => by rw [he, hx]
  by_cases h : 17 ≤ op ∧ op ≤ 27
  · rw [isErr, if_pos h]
    have hc : op = 17 ∨ op = 18 ∨ op = 19 ∨ op = 20 ∨ op = 21 ∨ op = 22 ∨ op = 23 ∨ op = 24 ∨ op = 25 ∨ op = 26 ∨ op = 27 := by omega
    rcases hc with rfl | rfl | rfl | rfl | rfl | rfl | rfl | rfl | rfl | rfl | rfl <;> cases nar
    · exact (Is17_wide a b w a0 a1 b0 b1).mono fun e w' ⟨he, hw⟩ => ⟨ret _ _ e he rfl, hw ▸ Below.refl _ _⟩
    · exact (Is17_narrow a b w a0 a1 b0 b1).mono fun e w' ⟨he, hw⟩ => ⟨ret _ _ e he rfl, hw ▸ Below.refl _ _⟩
    · exact (Is18_wide a b w a0 a1 b0 b1).mono fun e w' ⟨he, hw⟩ => ⟨ret _ _ e he rfl, hw ▸ Below.refl _ _⟩
    · exact (Is18_narrow a b w a0 a1 b0 b1).mono fun e w' ⟨he, hw⟩ => ⟨ret _ _ e he rfl, hw ▸ Below.refl _ _⟩
    · exact (Is19_wide a b w a0 a1 b0 b1).mono fun e w' ⟨he, hw⟩ => ⟨ret _ _ e he rfl, hw ▸ Below.refl _ _⟩
    · exact (Is19_narrow a b w a0 a1 b0 b1).mono fun e w' ⟨he, hw⟩ => ⟨ret _ _ e he rfl, hw ▸ Below.refl _ _⟩
    · exact (Is20_wide a b w a0 a1 b0 b1).mono fun e w' ⟨he, hw⟩ => ⟨ret _ _ e he rfl, hw ▸ Below.refl _ _⟩
    · exact (Is20_narrow a b w a0 a1 b0 b1).mono fun e w' ⟨he, hw⟩ => ⟨ret _ _ e he rfl, hw ▸ Below.refl _ _⟩
    · exact (Is21_wide a b w a0 a1 b0 b1).mono fun e w' ⟨he, hw⟩ => ⟨ret _ _ e he rfl, hw ▸ Below.refl _ _⟩
    · exact (Is21_narrow a b w a0 a1 b0 b1).mono fun e w' ⟨he, hw⟩ => ⟨ret _ _ e he rfl, hw ▸ Below.refl _ _⟩
    · exact (Is22_wide a b w a0 a1 b0 b1).mono fun e w' ⟨he, hw⟩ => ⟨ret _ _ e he rfl, hw ▸ Below.refl _ _⟩
    · exact (Is22_narrow a b w a0 a1 b0 b1).mono fun e w' ⟨he, hw⟩ => ⟨ret _ _ e he rfl, hw ▸ Below.refl _ _⟩
    · exact (Is23_wide a b w a0 a1 b0 b1).mono fun e w' ⟨he, hw⟩ => ⟨ret _ _ e he (by rw [top64 b b0 b1, top64 a a0 a1, lt_shift]; rfl), hw ▸ Below.refl _ _⟩
    · exact (Is23_narrow a b w a0 a1 b0 b1).mono fun e w' ⟨he, hw⟩ => ⟨ret _ _ e he (by rw [top32 b b0, top32 a a0, lt_shift]; rfl), hw ▸ Below.refl _ _⟩
    · exact (Is24_wide a b w a0 a1 b0 b1).mono fun e w' ⟨he, hw⟩ => ⟨ret _ _ e he (by rw [top64 b b0 b1, top64 a a0 a1, le_shift]; rfl), hw ▸ Below.refl _ _⟩
    · exact (Is24_narrow a b w a0 a1 b0 b1).mono fun e w' ⟨he, hw⟩ => ⟨ret _ _ e he (by rw [top32 b b0, top32 a a0, le_shift]; rfl), hw ▸ Below.refl _ _⟩
    · exact (Is25_wide a b w a0 a1 b0 b1).mono fun e w' ⟨he, hw⟩ => ⟨ret _ _ e he (by rw [top64 a a0 a1, top64 b b0 b1, lt_shift]; rfl), hw ▸ Below.refl _ _⟩
    · exact (Is25_narrow a b w a0 a1 b0 b1).mono fun e w' ⟨he, hw⟩ => ⟨ret _ _ e he (by rw [top32 a a0, top32 b b0, lt_shift]; rfl), hw ▸ Below.refl _ _⟩
    · exact (Is26_wide a b w a0 a1 b0 b1).mono fun e w' ⟨he, hw⟩ => ⟨ret _ _ e he (by rw [top64 a a0 a1, top64 b b0 b1, le_shift]; rfl), hw ▸ Below.refl _ _⟩
    · exact (Is26_narrow a b w a0 a1 b0 b1).mono fun e w' ⟨he, hw⟩ => ⟨ret _ _ e he (by rw [top32 a a0, top32 b b0, le_shift]; rfl), hw ▸ Below.refl _ _⟩
    · exact (Is27_wide a b w a0 a1 b0 b1).mono fun e w' ⟨he, hw⟩ => ⟨ret _ _ e he (by rw [each_and _ _ (by omega) (by omega) (by omega) (by omega)]; rfl), hw ▸ Below.refl _ _⟩
    · exact (Is27_narrow a b w a0 a1 b0 b1).mono fun e w' ⟨he, hw⟩ => ⟨ret _ _ e he (by rw [each_and _ _ (by omega) (by omega) (by omega) (by omega)]; rfl), hw ▸ Below.refl _ _⟩
  · rw [isErr, if_neg h, isAns, isVal_out _ _ _ _ _ h]
    exact (Is_none op h nar a b w).mono fun e w' ⟨he, hw⟩ => ⟨he, hw ▸ Below.refl _ _⟩

theorem Wide_any (n : Int) (w : World) :
    Calls Try.prog 14 #[.int .i64 n] w fun e w' => e = .returned (.int .u64 (IntKind.u64.wrap n)) ∧ New w w' := by
  go_enter Try.func14, Try.ntmps14
  go_wp2
  go_ret
  exact ⟨rfl, by go_grown⟩

end Go.Proofs.Ytkegoiibhleflaa.ref
