/-
  Contracts: a word turned.
-/
import Derived.Test.YtnmjgbkifglleaaDoorMem
import Derived.Test.YtnmjgbkifglleaaDoorShaM
import Derived.Test.YtnmjgbkifglleaaDoorChecked
import Derived.WalkKit
import Derived.Laws.BitsAllLaws
import Derived.Lib.Hide
namespace Go.Proofs.YtnmjgbkifglleaaDoor.sha
open Go.RowKit Go.Proofs.YtnmjgbkifglleaaDoor.mem
set_option linter.unusedVariables false

theorem ret_int {k : IntKind} {a b : Int} (h : a = b) : Ending.returned (.int k a) = .returned (.int k b) := by rw [h]
theorem rot_val (x s n : Nat) (hx : x < 4294967296) (hs : s + n = 32) (h0 : 0 < n) : bits BinOp.or IntKind.u32 ((x : Int) * 2 ^ s % 4294967296) ((x : Int) / 2 ^ n) = ((rotr x n : Nat) : Int) := by
  have e1 : (x : Int) * 2 ^ s % 4294967296 = ((x * 2 ^ (32 - n) % 4294967296 : Nat) : Int) := by
    rw [show 32 - n = s by omega]
    simp
  have e2 : (x : Int) / 2 ^ n = ((x / 2 ^ n : Nat) : Int) := by simp
  rw [e1, e2, u32_or_nat _ _ (Nat.mod_lt _ (by decide)) (Nat.lt_of_le_of_lt (Nat.div_le_self _ _) hx)]
  rfl
theorem rot_any (x s n : Nat) (k : Int) (w : World) (hx : x < 4294967296) (hk1 : -9223372036854775808 ≤ k) (hk2 : k ≤ 9223372036854775807) (hk : bits BinOp.and IntKind.u64 (IntKind.u64.wrap k) 31 = (s : Int)) (hs : s + n = 32) (h0 : 0 < n) (h1 : n < 32) :
    Calls Tryd.prog 92 #[.int .u32 x, .int .i64 k] w fun e w' => e = .returned (.int .u32 (rotr x n : Nat)) ∧ w = w' := by
  have h32 : (32 : Int) - (s : Int) = (n : Int) := by omega
  go_enter Tryd.func92, Tryd.ntmps92
  go_wp2
  go_ret
  exact ⟨ret_int (rot_val x s n hx hs h0), rfl⟩
theorem turned_2 (x : Nat) (hx : x < 4294967296) (w : World) : Calls Tryd.prog 65 #[.int .u32 x, .int .i64 2] w fun e w' => e = .returned (.int .u32 (rotr x 2 : Nat)) ∧ w = w' := by
  have HR := Lib.hid (rot_any x 30 2 (-2) w hx (by decide) (by decide) (by decide) rfl (by decide) (by decide))
  go_enter Tryd.func65, Tryd.ntmps65
  go_wp2_with (first | (go_at_call 92; (with_reducible refine HR.out.mono ?_); rintro e w1 ⟨rfl, rfl⟩))
  go_ret
  exact ⟨rfl, rfl⟩
theorem turned_6 (x : Nat) (hx : x < 4294967296) (w : World) : Calls Tryd.prog 65 #[.int .u32 x, .int .i64 6] w fun e w' => e = .returned (.int .u32 (rotr x 6 : Nat)) ∧ w = w' := by
  have HR := Lib.hid (rot_any x 26 6 (-6) w hx (by decide) (by decide) (by decide) rfl (by decide) (by decide))
  go_enter Tryd.func65, Tryd.ntmps65
  go_wp2_with (first | (go_at_call 92; (with_reducible refine HR.out.mono ?_); rintro e w1 ⟨rfl, rfl⟩))
  go_ret
  exact ⟨rfl, rfl⟩
theorem turned_7 (x : Nat) (hx : x < 4294967296) (w : World) : Calls Tryd.prog 65 #[.int .u32 x, .int .i64 7] w fun e w' => e = .returned (.int .u32 (rotr x 7 : Nat)) ∧ w = w' := by
  have HR := Lib.hid (rot_any x 25 7 (-7) w hx (by decide) (by decide) (by decide) rfl (by decide) (by decide))
  go_enter Tryd.func65, Tryd.ntmps65
  go_wp2_with (first | (go_at_call 92; (with_reducible refine HR.out.mono ?_); rintro e w1 ⟨rfl, rfl⟩))
  go_ret
  exact ⟨rfl, rfl⟩
theorem turned_11 (x : Nat) (hx : x < 4294967296) (w : World) : Calls Tryd.prog 65 #[.int .u32 x, .int .i64 11] w fun e w' => e = .returned (.int .u32 (rotr x 11 : Nat)) ∧ w = w' := by
  have HR := Lib.hid (rot_any x 21 11 (-11) w hx (by decide) (by decide) (by decide) rfl (by decide) (by decide))
  go_enter Tryd.func65, Tryd.ntmps65
  go_wp2_with (first | (go_at_call 92; (with_reducible refine HR.out.mono ?_); rintro e w1 ⟨rfl, rfl⟩))
  go_ret
  exact ⟨rfl, rfl⟩
theorem turned_13 (x : Nat) (hx : x < 4294967296) (w : World) : Calls Tryd.prog 65 #[.int .u32 x, .int .i64 13] w fun e w' => e = .returned (.int .u32 (rotr x 13 : Nat)) ∧ w = w' := by
  have HR := Lib.hid (rot_any x 19 13 (-13) w hx (by decide) (by decide) (by decide) rfl (by decide) (by decide))
  go_enter Tryd.func65, Tryd.ntmps65
  go_wp2_with (first | (go_at_call 92; (with_reducible refine HR.out.mono ?_); rintro e w1 ⟨rfl, rfl⟩))
  go_ret
  exact ⟨rfl, rfl⟩
theorem turned_17 (x : Nat) (hx : x < 4294967296) (w : World) : Calls Tryd.prog 65 #[.int .u32 x, .int .i64 17] w fun e w' => e = .returned (.int .u32 (rotr x 17 : Nat)) ∧ w = w' := by
  have HR := Lib.hid (rot_any x 15 17 (-17) w hx (by decide) (by decide) (by decide) rfl (by decide) (by decide))
  go_enter Tryd.func65, Tryd.ntmps65
  go_wp2_with (first | (go_at_call 92; (with_reducible refine HR.out.mono ?_); rintro e w1 ⟨rfl, rfl⟩))
  go_ret
  exact ⟨rfl, rfl⟩
theorem turned_18 (x : Nat) (hx : x < 4294967296) (w : World) : Calls Tryd.prog 65 #[.int .u32 x, .int .i64 18] w fun e w' => e = .returned (.int .u32 (rotr x 18 : Nat)) ∧ w = w' := by
  have HR := Lib.hid (rot_any x 14 18 (-18) w hx (by decide) (by decide) (by decide) rfl (by decide) (by decide))
  go_enter Tryd.func65, Tryd.ntmps65
  go_wp2_with (first | (go_at_call 92; (with_reducible refine HR.out.mono ?_); rintro e w1 ⟨rfl, rfl⟩))
  go_ret
  exact ⟨rfl, rfl⟩
theorem turned_19 (x : Nat) (hx : x < 4294967296) (w : World) : Calls Tryd.prog 65 #[.int .u32 x, .int .i64 19] w fun e w' => e = .returned (.int .u32 (rotr x 19 : Nat)) ∧ w = w' := by
  have HR := Lib.hid (rot_any x 13 19 (-19) w hx (by decide) (by decide) (by decide) rfl (by decide) (by decide))
  go_enter Tryd.func65, Tryd.ntmps65
  go_wp2_with (first | (go_at_call 92; (with_reducible refine HR.out.mono ?_); rintro e w1 ⟨rfl, rfl⟩))
  go_ret
  exact ⟨rfl, rfl⟩
theorem turned_22 (x : Nat) (hx : x < 4294967296) (w : World) : Calls Tryd.prog 65 #[.int .u32 x, .int .i64 22] w fun e w' => e = .returned (.int .u32 (rotr x 22 : Nat)) ∧ w = w' := by
  have HR := Lib.hid (rot_any x 10 22 (-22) w hx (by decide) (by decide) (by decide) rfl (by decide) (by decide))
  go_enter Tryd.func65, Tryd.ntmps65
  go_wp2_with (first | (go_at_call 92; (with_reducible refine HR.out.mono ?_); rintro e w1 ⟨rfl, rfl⟩))
  go_ret
  exact ⟨rfl, rfl⟩
theorem turned_25 (x : Nat) (hx : x < 4294967296) (w : World) : Calls Tryd.prog 65 #[.int .u32 x, .int .i64 25] w fun e w' => e = .returned (.int .u32 (rotr x 25 : Nat)) ∧ w = w' := by
  have HR := Lib.hid (rot_any x 7 25 (-25) w hx (by decide) (by decide) (by decide) rfl (by decide) (by decide))
  go_enter Tryd.func65, Tryd.ntmps65
  go_wp2_with (first | (go_at_call 92; (with_reducible refine HR.out.mono ?_); rintro e w1 ⟨rfl, rfl⟩))
  go_ret
  exact ⟨rfl, rfl⟩
end Go.Proofs.YtnmjgbkifglleaaDoor.sha
