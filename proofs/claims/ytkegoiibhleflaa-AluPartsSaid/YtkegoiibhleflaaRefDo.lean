/-
  What barbicanref01.Do answers.
-/
import Derived.Test.YtkegoiibhleflaaRef
namespace Go.Proofs.Ytkegoiibhleflaa.ref
open Go.ChangeShapes Go.WideShapes Go.ChangeAt Go.RowKit Go.Proofs.Ytkegoiibhleflaa.lit Go.Proofs.Ytkegoiibhleflaa.alu
set_option linter.unusedVariables false

theorem quiet_left {P : Program} {f : FuncId} {args : Array Value} {w : World} {n : Nat} {v : Value}
    (h : Calls P f args (w.drewN n) fun e w' => e = .returned v ∧ w.drewN n = w') : Calls P f args (w.drewN n) fun e w'' => e = .returned v ∧ ∃ m, w'' = w.drewN m :=
  h.mono fun _ _ ⟨he, hm⟩ => ⟨he, n, hm.symm⟩

theorem below_drewN {B : Nat} {a w : World} (h : Below B a w) (n : Nat) : Below B a (w.drewN n) := ⟨h.os, h.tape, h.output, h.size, h.block⟩

theorem low_any (x : Int) (h0 : 0 ≤ x) (h1 : x ≤ 18446744073709551615) : bits BinOp.and IntKind.u64 x 4294967295 = x % 4294967296 := by
  obtain ⟨n, rfl⟩ := Int.eq_ofNat_of_zero_le h0
  rw [show (4294967295 : Int) = ((4294967295 : Nat) : Int) from rfl, u64_and_nat _ _ (by omega) (by omega)]
  rw [show (4294967295 : Nat) = 2 ^ 32 - 1 from rfl, Nat.and_two_pow_sub_one_eq_mod]
  omega

theorem Do1_wide (a b : Int) (w : World) (a0 : 0 ≤ a) (a1 : a ≤ 18446744073709551615) (b0 : 0 ≤ b) (b1 : b ≤ 18446744073709551615) :
    Calls Try.prog 10 #[.int .u8 1, .bool false, .int .u64 a, .int .u64 b] w fun e w' => e = .returned (.tuple #[.int .u64 (IntKind.u64.wrap (a + b)), .int .i64 0]) ∧ w = w' := by
  go_enter Try.func10, Try.ntmps10
  go_wp2_with (first
    | (go_at_call 17; refine (each_any _ _ _ _ (by omega) (by omega) (by omega) (by omega)).mono ?_; rintro e w' ⟨rfl, rfl⟩)
    | (go_at_call 18; refine (moved_any _ _ 64 _ _ (by omega) (by omega) (by omega) (by omega) (by omega)).mono ?_; rintro e w' ⟨rfl, rfl⟩))
  go_ret2
  exact ⟨rfl, rfl⟩

theorem Do2_wide (a b : Int) (w : World) (a0 : 0 ≤ a) (a1 : a ≤ 18446744073709551615) (b0 : 0 ≤ b) (b1 : b ≤ 18446744073709551615) :
    Calls Try.prog 10 #[.int .u8 2, .bool false, .int .u64 a, .int .u64 b] w fun e w' => e = .returned (.tuple #[.int .u64 (IntKind.u64.wrap (a - b)), .int .i64 0]) ∧ w = w' := by
  go_enter Try.func10, Try.ntmps10
  go_wp2_with (first
    | (go_at_call 17; refine (each_any _ _ _ _ (by omega) (by omega) (by omega) (by omega)).mono ?_; rintro e w' ⟨rfl, rfl⟩)
    | (go_at_call 18; refine (moved_any _ _ 64 _ _ (by omega) (by omega) (by omega) (by omega) (by omega)).mono ?_; rintro e w' ⟨rfl, rfl⟩))
  go_ret2
  exact ⟨rfl, rfl⟩

theorem Do3_wide (a b : Int) (w : World) (a0 : 0 ≤ a) (a1 : a ≤ 18446744073709551615) (b0 : 0 ≤ b) (b1 : b ≤ 18446744073709551615) :
    Calls Try.prog 10 #[.int .u8 3, .bool false, .int .u64 a, .int .u64 b] w fun e w' => e = .returned (.tuple #[.int .u64 (IntKind.u64.wrap (a * b)), .int .i64 0]) ∧ w = w' := by
  go_enter Try.func10, Try.ntmps10
  go_wp2_with (first
    | (go_at_call 17; refine (each_any _ _ _ _ (by omega) (by omega) (by omega) (by omega)).mono ?_; rintro e w' ⟨rfl, rfl⟩)
    | (go_at_call 18; refine (moved_any _ _ 64 _ _ (by omega) (by omega) (by omega) (by omega) (by omega)).mono ?_; rintro e w' ⟨rfl, rfl⟩))
  go_ret2
  exact ⟨rfl, rfl⟩

theorem Do4_wide (a b : Int) (w : World) (a0 : 0 ≤ a) (a1 : a ≤ 18446744073709551615) (b0 : 0 ≤ b) (b1 : b ≤ 18446744073709551615) (hne : ¬ b = 0) :
    Calls Try.prog 10 #[.int .u8 4, .bool false, .int .u64 a, .int .u64 b] w fun e w' => e = .returned (.tuple #[.int .u64 (a / b), .int .i64 0]) ∧ w = w' := by
  go_enter Try.func10, Try.ntmps10
  go_wp2_with (first
    | (go_at_call 17; refine (each_any _ _ _ _ (by omega) (by omega) (by omega) (by omega)).mono ?_; rintro e w' ⟨rfl, rfl⟩)
    | (go_at_call 18; refine (moved_any _ _ 64 _ _ (by omega) (by omega) (by omega) (by omega) (by omega)).mono ?_; rintro e w' ⟨rfl, rfl⟩))
  go_ret2
  exact ⟨rfl, rfl⟩

theorem Do5_wide (a b : Int) (w : World) (a0 : 0 ≤ a) (a1 : a ≤ 18446744073709551615) (b0 : 0 ≤ b) (b1 : b ≤ 18446744073709551615) (hne : ¬ b = 0) :
    Calls Try.prog 10 #[.int .u8 5, .bool false, .int .u64 a, .int .u64 b] w fun e w' => e = .returned (.tuple #[.int .u64 (IntKind.u64.wrap (a - IntKind.u64.wrap (a / b * b))), .int .i64 0]) ∧ w = w' := by
  go_enter Try.func10, Try.ntmps10
  go_wp2_with (first
    | (go_at_call 17; refine (each_any _ _ _ _ (by omega) (by omega) (by omega) (by omega)).mono ?_; rintro e w' ⟨rfl, rfl⟩)
    | (go_at_call 18; refine (moved_any _ _ 64 _ _ (by omega) (by omega) (by omega) (by omega) (by omega)).mono ?_; rintro e w' ⟨rfl, rfl⟩))
  go_ret2
  exact ⟨rfl, rfl⟩

theorem Do6_wide (a b : Int) (w : World) (a0 : 0 ≤ a) (a1 : a ≤ 18446744073709551615) (b0 : 0 ≤ b) (b1 : b ≤ 18446744073709551615) :
    Calls Try.prog 10 #[.int .u8 6, .bool false, .int .u64 a, .int .u64 b] w fun e w' => e = .returned (.tuple #[.int .u64 (((gather (eachF 6 (a) (b)) 64 : Nat) : Int)), .int .i64 0]) ∧ w = w' := by
  go_enter Try.func10, Try.ntmps10
  go_wp2_with (first
    | (go_at_call 17; refine (each_any _ _ _ _ (by omega) (by omega) (by omega) (by omega)).mono ?_; rintro e w' ⟨rfl, rfl⟩)
    | (go_at_call 18; refine (moved_any _ _ 64 _ _ (by omega) (by omega) (by omega) (by omega) (by omega)).mono ?_; rintro e w' ⟨rfl, rfl⟩))
  go_ret2
  exact ⟨rfl, rfl⟩

theorem Do7_wide (a b : Int) (w : World) (a0 : 0 ≤ a) (a1 : a ≤ 18446744073709551615) (b0 : 0 ≤ b) (b1 : b ≤ 18446744073709551615) :
    Calls Try.prog 10 #[.int .u8 7, .bool false, .int .u64 a, .int .u64 b] w fun e w' => e = .returned (.tuple #[.int .u64 (((gather (eachF 7 (a) (b)) 64 : Nat) : Int)), .int .i64 0]) ∧ w = w' := by
  go_enter Try.func10, Try.ntmps10
  go_wp2_with (first
    | (go_at_call 17; refine (each_any _ _ _ _ (by omega) (by omega) (by omega) (by omega)).mono ?_; rintro e w' ⟨rfl, rfl⟩)
    | (go_at_call 18; refine (moved_any _ _ 64 _ _ (by omega) (by omega) (by omega) (by omega) (by omega)).mono ?_; rintro e w' ⟨rfl, rfl⟩))
  go_ret2
  exact ⟨rfl, rfl⟩

theorem Do8_wide (a b : Int) (w : World) (a0 : 0 ≤ a) (a1 : a ≤ 18446744073709551615) (b0 : 0 ≤ b) (b1 : b ≤ 18446744073709551615) :
    Calls Try.prog 10 #[.int .u8 8, .bool false, .int .u64 a, .int .u64 b] w fun e w' => e = .returned (.tuple #[.int .u64 (((gather (eachF 8 (a) (b)) 64 : Nat) : Int)), .int .i64 0]) ∧ w = w' := by
  go_enter Try.func10, Try.ntmps10
  go_wp2_with (first
    | (go_at_call 17; refine (each_any _ _ _ _ (by omega) (by omega) (by omega) (by omega)).mono ?_; rintro e w' ⟨rfl, rfl⟩)
    | (go_at_call 18; refine (moved_any _ _ 64 _ _ (by omega) (by omega) (by omega) (by omega) (by omega)).mono ?_; rintro e w' ⟨rfl, rfl⟩))
  go_ret2
  exact ⟨rfl, rfl⟩

theorem Do9_wide (a b : Int) (w : World) (a0 : 0 ≤ a) (a1 : a ≤ 18446744073709551615) (b0 : 0 ≤ b) (b1 : b ≤ 18446744073709551615) :
    Calls Try.prog 10 #[.int .u8 9, .bool false, .int .u64 a, .int .u64 b] w fun e w' => e = .returned (.tuple #[.int .u64 (((gather (movedF (a) (b % 64) 64 false) 64 : Nat) : Int)), .int .i64 0]) ∧ w = w' := by
  have hs : 0 ≤ b % 64 := by omega
  have hs' : b % 64 < 64 := by omega
  go_enter Try.func10, Try.ntmps10
  go_wp2_with (first
    | (go_at_call 17; refine (each_any _ _ _ _ (by omega) (by omega) (by omega) (by omega)).mono ?_; rintro e w' ⟨rfl, rfl⟩)
    | (go_at_call 18; refine (moved_any _ _ 64 _ _ (by omega) (by omega) (by omega) (by omega) (by omega)).mono ?_; rintro e w' ⟨rfl, rfl⟩))
  go_ret2
  exact ⟨rfl, rfl⟩

theorem Do10_wide (a b : Int) (w : World) (a0 : 0 ≤ a) (a1 : a ≤ 18446744073709551615) (b0 : 0 ≤ b) (b1 : b ≤ 18446744073709551615) :
    Calls Try.prog 10 #[.int .u8 10, .bool false, .int .u64 a, .int .u64 b] w fun e w' => e = .returned (.tuple #[.int .u64 (((gather (movedF (a) (-(b % 64)) 64 false) 64 : Nat) : Int)), .int .i64 0]) ∧ w = w' := by
  have hs : 0 ≤ b % 64 := by omega
  have hs' : b % 64 < 64 := by omega
  go_enter Try.func10, Try.ntmps10
  go_wp2_with (first
    | (go_at_call 17; refine (each_any _ _ _ _ (by omega) (by omega) (by omega) (by omega)).mono ?_; rintro e w' ⟨rfl, rfl⟩)
    | (go_at_call 18; refine (moved_any _ _ 64 _ _ (by omega) (by omega) (by omega) (by omega) (by omega)).mono ?_; rintro e w' ⟨rfl, rfl⟩))
  go_ret2
  exact ⟨rfl, rfl⟩

theorem Do11_wide (a b : Int) (w : World) (a0 : 0 ≤ a) (a1 : a ≤ 18446744073709551615) (b0 : 0 ≤ b) (b1 : b ≤ 18446744073709551615) :
    Calls Try.prog 10 #[.int .u8 11, .bool false, .int .u64 a, .int .u64 b] w fun e w' => e = .returned (.tuple #[.int .u64 (((gather (movedF (a) (-(b % 64)) 64 ((a).toNat.testBit 63)) 64 : Nat) : Int)), .int .i64 0]) ∧ New w w' := by
  have hs : 0 ≤ b % 64 := by omega
  have hs' : b % 64 < 64 := by omega
  have ht : (b : Int).tmod 64 = b % 64 := Int.tmod_eq_emod_of_nonneg (by omega)
  have x1 : IntKind.i64.wrap (b % 64) = b % 64 := IntWalk.i64_in _ (by omega)
  have x2 : IntKind.i64.wrap (-(b % 64)) = -(b % 64) := IntWalk.i64_in _ (by omega)
  go_enter Try.func10, Try.ntmps10
  go_wp2_with (first
    | (go_at_call 17; refine (each_any _ _ _ _ (by omega) (by omega) (by omega) (by omega)).mono ?_; rintro e w' ⟨rfl, rfl⟩)
    | (go_at_call 18; refine (moved_any _ _ 64 _ _ (by omega) (by omega) (by omega) (by omega) (by omega)).mono ?_; rintro e w' ⟨rfl, rfl⟩))
  go_quiet ((first
    | (go_at_call 19; exact quiet_left (bit_any _ _ _ (by omega) (by omega) (by omega) (by omega)))
    | (go_at_call 18; exact quiet_left (moved_any _ _ 64 _ _ (by omega) (by omega) (by omega) (by omega) (by omega)))))
  go_wp2
  go_ret2
  exact ⟨rfl, below_drewN (Below.refl _ _) _⟩

theorem Do12_wide (a b : Int) (w : World) (a0 : 0 ≤ a) (a1 : a ≤ 18446744073709551615) (b0 : 0 ≤ b) (b1 : b ≤ 18446744073709551615) :
    Calls Try.prog 10 #[.int .u8 12, .bool false, .int .u64 a, .int .u64 b] w fun e w' => e = .returned (.tuple #[.int .u64 (b), .int .i64 0]) ∧ w = w' := by
  go_enter Try.func10, Try.ntmps10
  go_wp2_with (first
    | (go_at_call 17; refine (each_any _ _ _ _ (by omega) (by omega) (by omega) (by omega)).mono ?_; rintro e w' ⟨rfl, rfl⟩)
    | (go_at_call 18; refine (moved_any _ _ 64 _ _ (by omega) (by omega) (by omega) (by omega) (by omega)).mono ?_; rintro e w' ⟨rfl, rfl⟩))
  go_ret2
  exact ⟨rfl, rfl⟩

theorem Do13_wide (a b : Int) (w : World) (a0 : 0 ≤ a) (a1 : a ≤ 18446744073709551615) (b0 : 0 ≤ b) (b1 : b ≤ 18446744073709551615) :
    Calls Try.prog 10 #[.int .u8 13, .bool false, .int .u64 a, .int .u64 b] w fun e w' => e = .returned (.tuple #[.int .u64 (IntKind.u64.wrap (-a)), .int .i64 0]) ∧ w = w' := by
  go_enter Try.func10, Try.ntmps10
  go_wp2_with (first
    | (go_at_call 17; refine (each_any _ _ _ _ (by omega) (by omega) (by omega) (by omega)).mono ?_; rintro e w' ⟨rfl, rfl⟩)
    | (go_at_call 18; refine (moved_any _ _ 64 _ _ (by omega) (by omega) (by omega) (by omega) (by omega)).mono ?_; rintro e w' ⟨rfl, rfl⟩))
  go_ret2
  exact ⟨rfl, rfl⟩

theorem Do1_narrow (a b : Int) (w : World) (a0 : 0 ≤ a) (a1 : a ≤ 18446744073709551615) (b0 : 0 ≤ b) (b1 : b ≤ 18446744073709551615) :
    Calls Try.prog 10 #[.int .u8 1, .bool true, .int .u64 a, .int .u64 b] w fun e w' => e = .returned (.tuple #[.int .u64 (bits BinOp.and IntKind.u64 ((a % 4294967296) + (b % 4294967296)) 4294967295), .int .i64 0]) ∧ w = w' := by
  have hA := low_any a a0 a1
  have hB := low_any b b0 b1
  have a2 : 0 ≤ a % 4294967296 := by omega
  have a3 : a % 4294967296 ≤ 4294967295 := by omega
  have b2 : 0 ≤ b % 4294967296 := by omega
  have b3 : b % 4294967296 ≤ 4294967295 := by omega
  go_enter Try.func10, Try.ntmps10
  go_wp2_with (first
    | (go_at_call 17; refine (each_any _ _ _ _ (by omega) (by omega) (by omega) (by omega)).mono ?_; rintro e w' ⟨rfl, rfl⟩)
    | (go_at_call 18; refine (moved_any _ _ 32 _ _ (by omega) (by omega) (by omega) (by omega) (by omega)).mono ?_; rintro e w' ⟨rfl, rfl⟩))
  go_ret2
  exact ⟨rfl, rfl⟩

theorem Do2_narrow (a b : Int) (w : World) (a0 : 0 ≤ a) (a1 : a ≤ 18446744073709551615) (b0 : 0 ≤ b) (b1 : b ≤ 18446744073709551615) :
    Calls Try.prog 10 #[.int .u8 2, .bool true, .int .u64 a, .int .u64 b] w fun e w' => e = .returned (.tuple #[.int .u64 (bits BinOp.and IntKind.u64 (IntKind.u64.wrap ((a % 4294967296) - (b % 4294967296))) 4294967295), .int .i64 0]) ∧ w = w' := by
  have hA := low_any a a0 a1
  have hB := low_any b b0 b1
  have a2 : 0 ≤ a % 4294967296 := by omega
  have a3 : a % 4294967296 ≤ 4294967295 := by omega
  have b2 : 0 ≤ b % 4294967296 := by omega
  have b3 : b % 4294967296 ≤ 4294967295 := by omega
  go_enter Try.func10, Try.ntmps10
  go_wp2_with (first
    | (go_at_call 17; refine (each_any _ _ _ _ (by omega) (by omega) (by omega) (by omega)).mono ?_; rintro e w' ⟨rfl, rfl⟩)
    | (go_at_call 18; refine (moved_any _ _ 32 _ _ (by omega) (by omega) (by omega) (by omega) (by omega)).mono ?_; rintro e w' ⟨rfl, rfl⟩))
  go_ret2
  exact ⟨rfl, rfl⟩

theorem Do3_narrow (a b : Int) (w : World) (a0 : 0 ≤ a) (a1 : a ≤ 18446744073709551615) (b0 : 0 ≤ b) (b1 : b ≤ 18446744073709551615) :
    Calls Try.prog 10 #[.int .u8 3, .bool true, .int .u64 a, .int .u64 b] w fun e w' => e = .returned (.tuple #[.int .u64 (bits BinOp.and IntKind.u64 (IntKind.u64.wrap ((a % 4294967296) * (b % 4294967296))) 4294967295), .int .i64 0]) ∧ w = w' := by
  have hA := low_any a a0 a1
  have hB := low_any b b0 b1
  have a2 : 0 ≤ a % 4294967296 := by omega
  have a3 : a % 4294967296 ≤ 4294967295 := by omega
  have b2 : 0 ≤ b % 4294967296 := by omega
  have b3 : b % 4294967296 ≤ 4294967295 := by omega
  go_enter Try.func10, Try.ntmps10
  go_wp2_with (first
    | (go_at_call 17; refine (each_any _ _ _ _ (by omega) (by omega) (by omega) (by omega)).mono ?_; rintro e w' ⟨rfl, rfl⟩)
    | (go_at_call 18; refine (moved_any _ _ 32 _ _ (by omega) (by omega) (by omega) (by omega) (by omega)).mono ?_; rintro e w' ⟨rfl, rfl⟩))
  go_ret2
  exact ⟨rfl, rfl⟩

theorem Do4_narrow (a b : Int) (w : World) (a0 : 0 ≤ a) (a1 : a ≤ 18446744073709551615) (b0 : 0 ≤ b) (b1 : b ≤ 18446744073709551615) (hne : ¬ (b % 4294967296) = 0) :
    Calls Try.prog 10 #[.int .u8 4, .bool true, .int .u64 a, .int .u64 b] w fun e w' => e = .returned (.tuple #[.int .u64 (bits BinOp.and IntKind.u64 ((a % 4294967296) / (b % 4294967296)) 4294967295), .int .i64 0]) ∧ w = w' := by
  have hA := low_any a a0 a1
  have hB := low_any b b0 b1
  have a2 : 0 ≤ a % 4294967296 := by omega
  have a3 : a % 4294967296 ≤ 4294967295 := by omega
  have b2 : 0 ≤ b % 4294967296 := by omega
  have b3 : b % 4294967296 ≤ 4294967295 := by omega
  go_enter Try.func10, Try.ntmps10
  go_wp2_with (first
    | (go_at_call 17; refine (each_any _ _ _ _ (by omega) (by omega) (by omega) (by omega)).mono ?_; rintro e w' ⟨rfl, rfl⟩)
    | (go_at_call 18; refine (moved_any _ _ 32 _ _ (by omega) (by omega) (by omega) (by omega) (by omega)).mono ?_; rintro e w' ⟨rfl, rfl⟩))
  go_ret2
  exact ⟨rfl, rfl⟩

theorem Do5_narrow (a b : Int) (w : World) (a0 : 0 ≤ a) (a1 : a ≤ 18446744073709551615) (b0 : 0 ≤ b) (b1 : b ≤ 18446744073709551615) (hne : ¬ (b % 4294967296) = 0) :
    Calls Try.prog 10 #[.int .u8 5, .bool true, .int .u64 a, .int .u64 b] w fun e w' => e = .returned (.tuple #[.int .u64 (bits BinOp.and IntKind.u64 (IntKind.u64.wrap ((a % 4294967296) - IntKind.u64.wrap ((a % 4294967296) / (b % 4294967296) * (b % 4294967296)))) 4294967295), .int .i64 0]) ∧ w = w' := by
  have hA := low_any a a0 a1
  have hB := low_any b b0 b1
  have a2 : 0 ≤ a % 4294967296 := by omega
  have a3 : a % 4294967296 ≤ 4294967295 := by omega
  have b2 : 0 ≤ b % 4294967296 := by omega
  have b3 : b % 4294967296 ≤ 4294967295 := by omega
  go_enter Try.func10, Try.ntmps10
  go_wp2_with (first
    | (go_at_call 17; refine (each_any _ _ _ _ (by omega) (by omega) (by omega) (by omega)).mono ?_; rintro e w' ⟨rfl, rfl⟩)
    | (go_at_call 18; refine (moved_any _ _ 32 _ _ (by omega) (by omega) (by omega) (by omega) (by omega)).mono ?_; rintro e w' ⟨rfl, rfl⟩))
  go_ret2
  exact ⟨rfl, rfl⟩

theorem Do6_narrow (a b : Int) (w : World) (a0 : 0 ≤ a) (a1 : a ≤ 18446744073709551615) (b0 : 0 ≤ b) (b1 : b ≤ 18446744073709551615) :
    Calls Try.prog 10 #[.int .u8 6, .bool true, .int .u64 a, .int .u64 b] w fun e w' => e = .returned (.tuple #[.int .u64 (bits BinOp.and IntKind.u64 (((gather (eachF 6 ((a % 4294967296)) ((b % 4294967296))) 64 : Nat) : Int)) 4294967295), .int .i64 0]) ∧ w = w' := by
  have hA := low_any a a0 a1
  have hB := low_any b b0 b1
  have a2 : 0 ≤ a % 4294967296 := by omega
  have a3 : a % 4294967296 ≤ 4294967295 := by omega
  have b2 : 0 ≤ b % 4294967296 := by omega
  have b3 : b % 4294967296 ≤ 4294967295 := by omega
  go_enter Try.func10, Try.ntmps10
  go_wp2_with (first
    | (go_at_call 17; refine (each_any _ _ _ _ (by omega) (by omega) (by omega) (by omega)).mono ?_; rintro e w' ⟨rfl, rfl⟩)
    | (go_at_call 18; refine (moved_any _ _ 32 _ _ (by omega) (by omega) (by omega) (by omega) (by omega)).mono ?_; rintro e w' ⟨rfl, rfl⟩))
  go_ret2
  exact ⟨rfl, rfl⟩

theorem Do7_narrow (a b : Int) (w : World) (a0 : 0 ≤ a) (a1 : a ≤ 18446744073709551615) (b0 : 0 ≤ b) (b1 : b ≤ 18446744073709551615) :
    Calls Try.prog 10 #[.int .u8 7, .bool true, .int .u64 a, .int .u64 b] w fun e w' => e = .returned (.tuple #[.int .u64 (bits BinOp.and IntKind.u64 (((gather (eachF 7 ((a % 4294967296)) ((b % 4294967296))) 64 : Nat) : Int)) 4294967295), .int .i64 0]) ∧ w = w' := by
  have hA := low_any a a0 a1
  have hB := low_any b b0 b1
  have a2 : 0 ≤ a % 4294967296 := by omega
  have a3 : a % 4294967296 ≤ 4294967295 := by omega
  have b2 : 0 ≤ b % 4294967296 := by omega
  have b3 : b % 4294967296 ≤ 4294967295 := by omega
  go_enter Try.func10, Try.ntmps10
  go_wp2_with (first
    | (go_at_call 17; refine (each_any _ _ _ _ (by omega) (by omega) (by omega) (by omega)).mono ?_; rintro e w' ⟨rfl, rfl⟩)
    | (go_at_call 18; refine (moved_any _ _ 32 _ _ (by omega) (by omega) (by omega) (by omega) (by omega)).mono ?_; rintro e w' ⟨rfl, rfl⟩))
  go_ret2
  exact ⟨rfl, rfl⟩

theorem Do8_narrow (a b : Int) (w : World) (a0 : 0 ≤ a) (a1 : a ≤ 18446744073709551615) (b0 : 0 ≤ b) (b1 : b ≤ 18446744073709551615) :
    Calls Try.prog 10 #[.int .u8 8, .bool true, .int .u64 a, .int .u64 b] w fun e w' => e = .returned (.tuple #[.int .u64 (bits BinOp.and IntKind.u64 (((gather (eachF 8 ((a % 4294967296)) ((b % 4294967296))) 64 : Nat) : Int)) 4294967295), .int .i64 0]) ∧ w = w' := by
  have hA := low_any a a0 a1
  have hB := low_any b b0 b1
  have a2 : 0 ≤ a % 4294967296 := by omega
  have a3 : a % 4294967296 ≤ 4294967295 := by omega
  have b2 : 0 ≤ b % 4294967296 := by omega
  have b3 : b % 4294967296 ≤ 4294967295 := by omega
  go_enter Try.func10, Try.ntmps10
  go_wp2_with (first
    | (go_at_call 17; refine (each_any _ _ _ _ (by omega) (by omega) (by omega) (by omega)).mono ?_; rintro e w' ⟨rfl, rfl⟩)
    | (go_at_call 18; refine (moved_any _ _ 32 _ _ (by omega) (by omega) (by omega) (by omega) (by omega)).mono ?_; rintro e w' ⟨rfl, rfl⟩))
  go_ret2
  exact ⟨rfl, rfl⟩

theorem Do9_narrow (a b : Int) (w : World) (a0 : 0 ≤ a) (a1 : a ≤ 18446744073709551615) (b0 : 0 ≤ b) (b1 : b ≤ 18446744073709551615) :
    Calls Try.prog 10 #[.int .u8 9, .bool true, .int .u64 a, .int .u64 b] w fun e w' => e = .returned (.tuple #[.int .u64 (bits BinOp.and IntKind.u64 (((gather (movedF ((a % 4294967296)) (b % 32) 32 false) 32 : Nat) : Int)) 4294967295), .int .i64 0]) ∧ w = w' := by
  have hA := low_any a a0 a1
  have hB := low_any b b0 b1
  have a2 : 0 ≤ a % 4294967296 := by omega
  have a3 : a % 4294967296 ≤ 4294967295 := by omega
  have b2 : 0 ≤ b % 4294967296 := by omega
  have b3 : b % 4294967296 ≤ 4294967295 := by omega
  have hs : 0 ≤ (b % 4294967296) % 32 := by omega
  have hs' : (b % 4294967296) % 32 < 32 := by omega
  go_enter Try.func10, Try.ntmps10
  go_wp2_with (first
    | (go_at_call 17; refine (each_any _ _ _ _ (by omega) (by omega) (by omega) (by omega)).mono ?_; rintro e w' ⟨rfl, rfl⟩)
    | (go_at_call 18; refine (moved_any _ _ 32 _ _ (by omega) (by omega) (by omega) (by omega) (by omega)).mono ?_; rintro e w' ⟨rfl, rfl⟩))
  go_ret2
  exact ⟨rfl, rfl⟩

theorem Do10_narrow (a b : Int) (w : World) (a0 : 0 ≤ a) (a1 : a ≤ 18446744073709551615) (b0 : 0 ≤ b) (b1 : b ≤ 18446744073709551615) :
    Calls Try.prog 10 #[.int .u8 10, .bool true, .int .u64 a, .int .u64 b] w fun e w' => e = .returned (.tuple #[.int .u64 (bits BinOp.and IntKind.u64 (((gather (movedF ((a % 4294967296)) (-(b % 32)) 32 false) 32 : Nat) : Int)) 4294967295), .int .i64 0]) ∧ w = w' := by
  have hA := low_any a a0 a1
  have hB := low_any b b0 b1
  have a2 : 0 ≤ a % 4294967296 := by omega
  have a3 : a % 4294967296 ≤ 4294967295 := by omega
  have b2 : 0 ≤ b % 4294967296 := by omega
  have b3 : b % 4294967296 ≤ 4294967295 := by omega
  have hs : 0 ≤ (b % 4294967296) % 32 := by omega
  have hs' : (b % 4294967296) % 32 < 32 := by omega
  go_enter Try.func10, Try.ntmps10
  go_wp2_with (first
    | (go_at_call 17; refine (each_any _ _ _ _ (by omega) (by omega) (by omega) (by omega)).mono ?_; rintro e w' ⟨rfl, rfl⟩)
    | (go_at_call 18; refine (moved_any _ _ 32 _ _ (by omega) (by omega) (by omega) (by omega) (by omega)).mono ?_; rintro e w' ⟨rfl, rfl⟩))
  go_ret2
  exact ⟨rfl, rfl⟩

theorem Do11_narrow (a b : Int) (w : World) (a0 : 0 ≤ a) (a1 : a ≤ 18446744073709551615) (b0 : 0 ≤ b) (b1 : b ≤ 18446744073709551615) :
    Calls Try.prog 10 #[.int .u8 11, .bool true, .int .u64 a, .int .u64 b] w fun e w' => e = .returned (.tuple #[.int .u64 (bits BinOp.and IntKind.u64 (((gather (movedF ((a % 4294967296)) (-(b % 32)) 32 (((a % 4294967296)).toNat.testBit 31)) 32 : Nat) : Int)) 4294967295), .int .i64 0]) ∧ New w w' := by
  have hA := low_any a a0 a1
  have hB := low_any b b0 b1
  have a2 : 0 ≤ a % 4294967296 := by omega
  have a3 : a % 4294967296 ≤ 4294967295 := by omega
  have b2 : 0 ≤ b % 4294967296 := by omega
  have b3 : b % 4294967296 ≤ 4294967295 := by omega
  have hs : 0 ≤ (b % 4294967296) % 32 := by omega
  have hs' : (b % 4294967296) % 32 < 32 := by omega
  have ht : ((b % 4294967296) : Int).tmod 32 = (b % 4294967296) % 32 := Int.tmod_eq_emod_of_nonneg (by omega)
  have x1 : IntKind.i64.wrap ((b % 4294967296) % 32) = (b % 4294967296) % 32 := IntWalk.i64_in _ (by omega)
  have x2 : IntKind.i64.wrap (-((b % 4294967296) % 32)) = -((b % 4294967296) % 32) := IntWalk.i64_in _ (by omega)
  go_enter Try.func10, Try.ntmps10
  go_wp2_with (first
    | (go_at_call 17; refine (each_any _ _ _ _ (by omega) (by omega) (by omega) (by omega)).mono ?_; rintro e w' ⟨rfl, rfl⟩)
    | (go_at_call 18; refine (moved_any _ _ 32 _ _ (by omega) (by omega) (by omega) (by omega) (by omega)).mono ?_; rintro e w' ⟨rfl, rfl⟩))
  go_quiet ((first
    | (go_at_call 19; exact quiet_left (bit_any _ _ _ (by omega) (by omega) (by omega) (by omega)))
    | (go_at_call 18; exact quiet_left (moved_any _ _ 32 _ _ (by omega) (by omega) (by omega) (by omega) (by omega)))))
  go_wp2
  go_ret2
  exact ⟨rfl, below_drewN (Below.refl _ _) _⟩

theorem Do12_narrow (a b : Int) (w : World) (a0 : 0 ≤ a) (a1 : a ≤ 18446744073709551615) (b0 : 0 ≤ b) (b1 : b ≤ 18446744073709551615) :
    Calls Try.prog 10 #[.int .u8 12, .bool true, .int .u64 a, .int .u64 b] w fun e w' => e = .returned (.tuple #[.int .u64 (bits BinOp.and IntKind.u64 ((b % 4294967296)) 4294967295), .int .i64 0]) ∧ w = w' := by
  have hA := low_any a a0 a1
  have hB := low_any b b0 b1
  have a2 : 0 ≤ a % 4294967296 := by omega
  have a3 : a % 4294967296 ≤ 4294967295 := by omega
  have b2 : 0 ≤ b % 4294967296 := by omega
  have b3 : b % 4294967296 ≤ 4294967295 := by omega
  go_enter Try.func10, Try.ntmps10
  go_wp2_with (first
    | (go_at_call 17; refine (each_any _ _ _ _ (by omega) (by omega) (by omega) (by omega)).mono ?_; rintro e w' ⟨rfl, rfl⟩)
    | (go_at_call 18; refine (moved_any _ _ 32 _ _ (by omega) (by omega) (by omega) (by omega) (by omega)).mono ?_; rintro e w' ⟨rfl, rfl⟩))
  go_ret2
  exact ⟨rfl, rfl⟩

theorem Do13_narrow (a b : Int) (w : World) (a0 : 0 ≤ a) (a1 : a ≤ 18446744073709551615) (b0 : 0 ≤ b) (b1 : b ≤ 18446744073709551615) :
    Calls Try.prog 10 #[.int .u8 13, .bool true, .int .u64 a, .int .u64 b] w fun e w' => e = .returned (.tuple #[.int .u64 (bits BinOp.and IntKind.u64 (IntKind.u64.wrap (-(a % 4294967296))) 4294967295), .int .i64 0]) ∧ w = w' := by
  have hA := low_any a a0 a1
  have hB := low_any b b0 b1
  have a2 : 0 ≤ a % 4294967296 := by omega
  have a3 : a % 4294967296 ≤ 4294967295 := by omega
  have b2 : 0 ≤ b % 4294967296 := by omega
  have b3 : b % 4294967296 ≤ 4294967295 := by omega
  go_enter Try.func10, Try.ntmps10
  go_wp2_with (first
    | (go_at_call 17; refine (each_any _ _ _ _ (by omega) (by omega) (by omega) (by omega)).mono ?_; rintro e w' ⟨rfl, rfl⟩)
    | (go_at_call 18; refine (moved_any _ _ 32 _ _ (by omega) (by omega) (by omega) (by omega) (by omega)).mono ?_; rintro e w' ⟨rfl, rfl⟩))
  go_ret2
  exact ⟨rfl, rfl⟩

end Go.Proofs.Ytkegoiibhleflaa.ref
