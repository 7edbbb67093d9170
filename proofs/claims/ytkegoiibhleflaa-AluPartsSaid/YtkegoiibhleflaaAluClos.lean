/-
  Contracts of alu's closures.
-/
import Derived.Test.YtkegoiibhleflaaAlu
namespace Go.Proofs.Ytkegoiibhleflaa.alu
open Go.ChangeShapes Go.WideShapes Go.ChangeAt Go.RowKit Go.Proofs.Ytkegoiibhleflaa.lit
set_option linter.unusedVariables false

theorem move_any (a b sa sb m k : Int) (w : World) (b0 : 0 ≤ b) (k0 : 1 ≤ k) :
    Calls Try.prog 38 #[pr a b sa sb m k] w fun e w' => e = .returned (.int .u64 (b % k)) ∧ New w w' := by
  have hk : ¬ k = 0 := by omega
  go_enter Try.func38, Try.ntmps38
  go_wp2
  go_ret
  exact ⟨rfl, by go_grown⟩

theorem arithmetic1_any (a b sa sb m k : Int) (w : World) (a0 : 0 ≤ a) (a1 : a ≤ 18446744073709551615) (b0 : 0 ≤ b) (b1 : b ≤ 18446744073709551615) :
    Calls Try.prog 27 #[pr a b sa sb m k] w fun e w' => e = .returned (.int .u64 (IntKind.u64.wrap (a + b))) ∧ New w w' := by
  go_enter Try.func27, Try.ntmps27
  go_wp2
  go_ret
  exact ⟨rfl, by go_grown⟩

theorem arithmetic2_any (a b sa sb m k : Int) (w : World) (a0 : 0 ≤ a) (a1 : a ≤ 18446744073709551615) (b0 : 0 ≤ b) (b1 : b ≤ 18446744073709551615) :
    Calls Try.prog 28 #[pr a b sa sb m k] w fun e w' => e = .returned (.int .u64 (IntKind.u64.wrap (a - b))) ∧ New w w' := by
  go_enter Try.func28, Try.ntmps28
  go_wp2
  go_ret
  exact ⟨rfl, by go_grown⟩

theorem arithmetic3_any (a b sa sb m k : Int) (w : World) (a0 : 0 ≤ a) (a1 : a ≤ 18446744073709551615) (b0 : 0 ≤ b) (b1 : b ≤ 18446744073709551615) :
    Calls Try.prog 29 #[pr a b sa sb m k] w fun e w' => e = .returned (.int .u64 (IntKind.u64.wrap (a * b))) ∧ New w w' := by
  go_enter Try.func29, Try.ntmps29
  go_wp2
  go_ret
  exact ⟨rfl, by go_grown⟩

theorem arithmetic4_any (a b sa sb m k : Int) (w : World) (a0 : 0 ≤ a) (a1 : a ≤ 18446744073709551615) (b0 : 0 ≤ b) (b1 : b ≤ 18446744073709551615) (hne : ¬ b = 0) :
    Calls Try.prog 30 #[pr a b sa sb m k] w fun e w' => e = .returned (.int .u64 (a / b)) ∧ New w w' := by
  go_enter Try.func30, Try.ntmps30
  go_wp2
  go_ret
  exact ⟨rfl, by go_grown⟩

theorem arithmetic5_any (a b sa sb m k : Int) (w : World) (a0 : 0 ≤ a) (a1 : a ≤ 18446744073709551615) (b0 : 0 ≤ b) (b1 : b ≤ 18446744073709551615) (hne : ¬ b = 0) :
    Calls Try.prog 31 #[pr a b sa sb m k] w fun e w' => e = .returned (.int .u64 (a % b)) ∧ New w w' := by
  go_enter Try.func31, Try.ntmps31
  go_wp2
  go_ret
  exact ⟨rfl, by go_grown⟩

theorem arithmetic6_any (a b sa sb m k : Int) (w : World) (a0 : 0 ≤ a) (a1 : a ≤ 18446744073709551615) (b0 : 0 ≤ b) (b1 : b ≤ 18446744073709551615) :
    Calls Try.prog 32 #[pr a b sa sb m k] w fun e w' => e = .returned (.int .u64 (b)) ∧ New w w' := by
  go_enter Try.func32, Try.ntmps32
  go_wp2
  go_ret
  exact ⟨rfl, by go_grown⟩

theorem arithmetic7_any (a b sa sb m k : Int) (w : World) (a0 : 0 ≤ a) (a1 : a ≤ 18446744073709551615) (b0 : 0 ≤ b) (b1 : b ≤ 18446744073709551615) :
    Calls Try.prog 33 #[pr a b sa sb m k] w fun e w' => e = .returned (.int .u64 (IntKind.u64.wrap (-a))) ∧ New w w' := by
  go_enter Try.func33, Try.ntmps33
  go_wp2
  go_ret
  exact ⟨rfl, by go_grown⟩

theorem bitwise1_any (a b sa sb m k : Int) (w : World) (a0 : 0 ≤ a) (a1 : a ≤ 18446744073709551615) (b0 : 0 ≤ b) (b1 : b ≤ 18446744073709551615) :
    Calls Try.prog 34 #[pr a b sa sb m k] w fun e w' => e = .returned (.int .u64 (bits BinOp.and IntKind.u64 a b)) ∧ New w w' := by
  go_enter Try.func34, Try.ntmps34
  go_wp2
  go_ret
  exact ⟨rfl, by go_grown⟩

theorem bitwise2_any (a b sa sb m k : Int) (w : World) (a0 : 0 ≤ a) (a1 : a ≤ 18446744073709551615) (b0 : 0 ≤ b) (b1 : b ≤ 18446744073709551615) :
    Calls Try.prog 35 #[pr a b sa sb m k] w fun e w' => e = .returned (.int .u64 (bits BinOp.or IntKind.u64 a b)) ∧ New w w' := by
  go_enter Try.func35, Try.ntmps35
  go_wp2
  go_ret
  exact ⟨rfl, by go_grown⟩

theorem bitwise3_any (a b sa sb m k : Int) (w : World) (a0 : 0 ≤ a) (a1 : a ≤ 18446744073709551615) (b0 : 0 ≤ b) (b1 : b ≤ 18446744073709551615) :
    Calls Try.prog 36 #[pr a b sa sb m k] w fun e w' => e = .returned (.int .u64 (bits BinOp.xor IntKind.u64 a b)) ∧ New w w' := by
  go_enter Try.func36, Try.ntmps36
  go_wp2
  go_ret
  exact ⟨rfl, by go_grown⟩

theorem bitwise4_any (a b sa sb m k : Int) (w : World) (a0 : 0 ≤ a) (a1 : a ≤ 18446744073709551615) (b0 : 0 ≤ b) (b1 : b ≤ 18446744073709551615) (k0 : 1 ≤ k) :
    Calls Try.prog 37 #[pr a b sa sb m k] w fun e w' => e = .returned (.int .u64 (IntKind.u64.wrap (a * 2 ^ min (b % k).toNat 64))) ∧ New w w' := by
  have hs : 0 ≤ b % k := Int.emod_nonneg _ (by omega)
  go_enter Try.func37, Try.ntmps37
  go_wp2_with fail
  go_region_held3 (fun w' => w'.cell? ⟨w.heap.size, 0, none⟩ = some (.int .u64 a) ∧ w'.cell? ⟨w.heap.size, 1, none⟩ = some (.int .u64 b) ∧ w'.cell? ⟨w.heap.size, 2, none⟩ = some (.int .i64 sa) ∧ w'.cell? ⟨w.heap.size, 3, none⟩ = some (.int .i64 sb) ∧ w'.cell? ⟨w.heap.size, 4, none⟩ = some (.int .u64 m) ∧ w'.cell? ⟨w.heap.size, 5, none⟩ = some (.int .u64 k))
   (go_keep)
   (first | (go_at_call 38; refine (move_any _ _ _ _ _ _ _ b0 k0).mono ?_; rintro e w1 ⟨rfl, hb1⟩; obtain ⟨hc1, hf1⟩ := bcell hb1; have hn := New.then (a := w) (by go_grown) hb1; have hz := hb1.size; simp at hz))
  go_wp2
  go_ret
  exact ⟨rfl, hn⟩

theorem bitwise5_any (a b sa sb m k : Int) (w : World) (a0 : 0 ≤ a) (a1 : a ≤ 18446744073709551615) (b0 : 0 ≤ b) (b1 : b ≤ 18446744073709551615) (k0 : 1 ≤ k) :
    Calls Try.prog 39 #[pr a b sa sb m k] w fun e w' => e = .returned (.int .u64 (a / 2 ^ min (b % k).toNat 64)) ∧ New w w' := by
  have hs : 0 ≤ b % k := Int.emod_nonneg _ (by omega)
  go_enter Try.func39, Try.ntmps39
  go_wp2_with fail
  go_region_held3 (fun w' => w'.cell? ⟨w.heap.size, 0, none⟩ = some (.int .u64 a) ∧ w'.cell? ⟨w.heap.size, 1, none⟩ = some (.int .u64 b) ∧ w'.cell? ⟨w.heap.size, 2, none⟩ = some (.int .i64 sa) ∧ w'.cell? ⟨w.heap.size, 3, none⟩ = some (.int .i64 sb) ∧ w'.cell? ⟨w.heap.size, 4, none⟩ = some (.int .u64 m) ∧ w'.cell? ⟨w.heap.size, 5, none⟩ = some (.int .u64 k))
   (go_keep)
   (first | (go_at_call 38; refine (move_any _ _ _ _ _ _ _ b0 k0).mono ?_; rintro e w1 ⟨rfl, hb1⟩; obtain ⟨hc1, hf1⟩ := bcell hb1; have hn := New.then (a := w) (by go_grown) hb1; have hz := hb1.size; simp at hz))
  go_wp2
  go_ret
  exact ⟨rfl, hn⟩

theorem bitwise6_any (a b sa sb m k : Int) (w : World) (a0 : 0 ≤ a) (a1 : a ≤ 18446744073709551615) (b0 : 0 ≤ b) (b1 : b ≤ 18446744073709551615) (k0 : 1 ≤ k) :
    Calls Try.prog 40 #[pr a b sa sb m k] w fun e w' => e = .returned (.int .u64 (IntKind.u64.wrap (sa / 2 ^ min (b % k).toNat 64))) ∧ New w w' := by
  have hs : 0 ≤ b % k := Int.emod_nonneg _ (by omega)
  go_enter Try.func40, Try.ntmps40
  go_wp2_with fail
  go_region_held3 (fun w' => w'.cell? ⟨w.heap.size, 0, none⟩ = some (.int .u64 a) ∧ w'.cell? ⟨w.heap.size, 1, none⟩ = some (.int .u64 b) ∧ w'.cell? ⟨w.heap.size, 2, none⟩ = some (.int .i64 sa) ∧ w'.cell? ⟨w.heap.size, 3, none⟩ = some (.int .i64 sb) ∧ w'.cell? ⟨w.heap.size, 4, none⟩ = some (.int .u64 m) ∧ w'.cell? ⟨w.heap.size, 5, none⟩ = some (.int .u64 k))
   (go_keep)
   (first | (go_at_call 38; refine (move_any _ _ _ _ _ _ _ b0 k0).mono ?_; rintro e w1 ⟨rfl, hb1⟩; obtain ⟨hc1, hf1⟩ := bcell hb1; have hn := New.then (a := w) (by go_grown) hb1; have hz := hb1.size; simp at hz))
  go_wp2
  go_ret
  exact ⟨rfl, hn⟩

theorem plain1_any (a b sa sb m k : Int) (w : World) (a0 : 0 ≤ a) (a1 : a ≤ 18446744073709551615) (b0 : 0 ≤ b) (b1 : b ≤ 18446744073709551615) :
    Calls Try.prog 41 #[pr a b sa sb m k] w fun e w' => e = .returned (.bool (a == b)) ∧ New w w' := by
  go_enter Try.func41, Try.ntmps41
  go_wp2
  go_ret
  exact ⟨rfl, by go_grown⟩

theorem plain2_any (a b sa sb m k : Int) (w : World) (a0 : 0 ≤ a) (a1 : a ≤ 18446744073709551615) (b0 : 0 ≤ b) (b1 : b ≤ 18446744073709551615) :
    Calls Try.prog 42 #[pr a b sa sb m k] w fun e w' => e = .returned (.bool (a != b)) ∧ New w w' := by
  go_enter Try.func42, Try.ntmps42
  go_wp2
  go_ret
  exact ⟨rfl, by go_grown⟩

theorem plain3_any (a b sa sb m k : Int) (w : World) (a0 : 0 ≤ a) (a1 : a ≤ 18446744073709551615) (b0 : 0 ≤ b) (b1 : b ≤ 18446744073709551615) :
    Calls Try.prog 43 #[pr a b sa sb m k] w fun e w' => e = .returned (.bool (decide (b < a))) ∧ New w w' := by
  go_enter Try.func43, Try.ntmps43
  go_wp2
  go_ret
  exact ⟨rfl, by go_grown⟩

theorem plain4_any (a b sa sb m k : Int) (w : World) (a0 : 0 ≤ a) (a1 : a ≤ 18446744073709551615) (b0 : 0 ≤ b) (b1 : b ≤ 18446744073709551615) :
    Calls Try.prog 44 #[pr a b sa sb m k] w fun e w' => e = .returned (.bool (decide (b ≤ a))) ∧ New w w' := by
  go_enter Try.func44, Try.ntmps44
  go_wp2
  go_ret
  exact ⟨rfl, by go_grown⟩

theorem plain5_any (a b sa sb m k : Int) (w : World) (a0 : 0 ≤ a) (a1 : a ≤ 18446744073709551615) (b0 : 0 ≤ b) (b1 : b ≤ 18446744073709551615) :
    Calls Try.prog 45 #[pr a b sa sb m k] w fun e w' => e = .returned (.bool (decide (a < b))) ∧ New w w' := by
  go_enter Try.func45, Try.ntmps45
  go_wp2
  go_ret
  exact ⟨rfl, by go_grown⟩

theorem plain6_any (a b sa sb m k : Int) (w : World) (a0 : 0 ≤ a) (a1 : a ≤ 18446744073709551615) (b0 : 0 ≤ b) (b1 : b ≤ 18446744073709551615) :
    Calls Try.prog 46 #[pr a b sa sb m k] w fun e w' => e = .returned (.bool (decide (a ≤ b))) ∧ New w w' := by
  go_enter Try.func46, Try.ntmps46
  go_wp2
  go_ret
  exact ⟨rfl, by go_grown⟩

theorem plain7_any (a b sa sb m k : Int) (w : World) (a0 : 0 ≤ a) (a1 : a ≤ 18446744073709551615) (b0 : 0 ≤ b) (b1 : b ≤ 18446744073709551615) :
    Calls Try.prog 47 #[pr a b sa sb m k] w fun e w' => e = .returned (.bool (bits BinOp.and IntKind.u64 a b != 0)) ∧ New w w' := by
  go_enter Try.func47, Try.ntmps47
  go_wp2
  go_ret
  exact ⟨rfl, by go_grown⟩

theorem ordered1_any (a b sa sb m k : Int) (w : World) (a0 : 0 ≤ a) (a1 : a ≤ 18446744073709551615) (b0 : 0 ≤ b) (b1 : b ≤ 18446744073709551615) :
    Calls Try.prog 48 #[pr a b sa sb m k] w fun e w' => e = .returned (.bool (decide (sb < sa))) ∧ New w w' := by
  go_enter Try.func48, Try.ntmps48
  go_wp2
  go_ret
  exact ⟨rfl, by go_grown⟩

theorem ordered2_any (a b sa sb m k : Int) (w : World) (a0 : 0 ≤ a) (a1 : a ≤ 18446744073709551615) (b0 : 0 ≤ b) (b1 : b ≤ 18446744073709551615) :
    Calls Try.prog 49 #[pr a b sa sb m k] w fun e w' => e = .returned (.bool (decide (sb ≤ sa))) ∧ New w w' := by
  go_enter Try.func49, Try.ntmps49
  go_wp2
  go_ret
  exact ⟨rfl, by go_grown⟩

theorem ordered3_any (a b sa sb m k : Int) (w : World) (a0 : 0 ≤ a) (a1 : a ≤ 18446744073709551615) (b0 : 0 ≤ b) (b1 : b ≤ 18446744073709551615) :
    Calls Try.prog 50 #[pr a b sa sb m k] w fun e w' => e = .returned (.bool (decide (sa < sb))) ∧ New w w' := by
  go_enter Try.func50, Try.ntmps50
  go_wp2
  go_ret
  exact ⟨rfl, by go_grown⟩

theorem ordered4_any (a b sa sb m k : Int) (w : World) (a0 : 0 ≤ a) (a1 : a ≤ 18446744073709551615) (b0 : 0 ≤ b) (b1 : b ≤ 18446744073709551615) :
    Calls Try.prog 51 #[pr a b sa sb m k] w fun e w' => e = .returned (.bool (decide (sa ≤ sb))) ∧ New w w' := by
  go_enter Try.func51, Try.ntmps51
  go_wp2
  go_ret
  exact ⟨rfl, by go_grown⟩
end Go.Proofs.Ytkegoiibhleflaa.alu
