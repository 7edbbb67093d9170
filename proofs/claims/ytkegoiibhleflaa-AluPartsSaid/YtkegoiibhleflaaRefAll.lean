/-
  barbicanref01.Do and barbicanref01.Is answer what alu.Do and alu.Is answer.
-/
import Derived.Test.YtkegoiibhleflaaRefDo
import Derived.Test.YtkegoiibhleflaaAluMath
namespace Go.Proofs.Ytkegoiibhleflaa.ref
open Go.ChangeShapes Go.WideShapes Go.ChangeAt Go.RowKit Go.Proofs.Ytkegoiibhleflaa.lit Go.Proofs.Ytkegoiibhleflaa.alu
set_option linter.unusedVariables false

theorem u64_bd (x : Int) : 0 ≤ IntKind.u64.wrap x ∧ IntKind.u64.wrap x ≤ 18446744073709551615 := by
  rw [IntKind.wrap_u64]; omega

theorem Do_nought (op : Int) (h : op = 4 ∨ op = 5) (nar : Bool) (a b : Int) (hz : cut nar b = 0) (w : World) (a0 : 0 ≤ a) (a1 : a ≤ 18446744073709551615) (b0 : 0 ≤ b) (b1 : b ≤ 18446744073709551615) :
    Calls Try.prog 10 #[.int .u8 op, .bool nar, .int .u64 a, .int .u64 b] w fun e w' => e = .returned (.tuple #[.int .u64 0, .int .i64 113]) ∧ w = w' := by
  have hB := low_any b b0 b1
  cases nar <;> simp only [cut, if_true, Bool.false_eq_true, if_false] at hz
  · subst hz
    rcases h with rfl | rfl
    all_goals
      go_enter Try.func10, Try.ntmps10
      go_wp2
      go_ret2
      exact ⟨rfl, rfl⟩
  · rw [hz] at hB
    clear hz
    rcases h with rfl | rfl
    all_goals
      go_enter Try.func10, Try.ntmps10
      go_wp2
      go_ret2
      exact ⟨rfl, rfl⟩

theorem Do_none (op : Int) (h : ¬ (1 ≤ op ∧ op ≤ 13)) (nar : Bool) (a b : Int) (w : World) :
    Calls Try.prog 10 #[.int .u8 op, .bool nar, .int .u64 a, .int .u64 b] w fun e w' => e = .returned (.tuple #[.int .u64 0, .int .i64 2]) ∧ w = w' := by
  have h1 : (op == 1) = false ∧ (op == 2) = false ∧ (op == 3) = false ∧ (op == 4) = false ∧ (op == 5) = false ∧ (op == 6) = false ∧ (op == 7) = false ∧ (op == 8) = false ∧ (op == 9) = false ∧ (op == 10) = false ∧ (op == 11) = false ∧ (op == 12) = false ∧ (op == 13) = false := by
    refine ⟨?_, ?_, ?_, ?_, ?_, ?_, ?_, ?_, ?_, ?_, ?_, ?_, ?_⟩ <;> simp <;> omega
  obtain ⟨x1, x2, x3, x4, x5, x6, x7, x8, x9, x10, x11, x12, x13⟩ := h1
  clear h
  cases nar
  all_goals
    go_enter Try.func10, Try.ntmps10
    go_wp2
    go_ret2
    exact ⟨rfl, rfl⟩

/-! ### the same numbers -/
theorem pow_min (s : Int) (W : Nat) (h0 : 0 ≤ s) (h1 : s < W) (hW : W ≤ 64) : min s.toNat 64 = s.toNat := by omega

theorem mod_eq (a b : Int) (a0 : 0 ≤ a) (a1 : a ≤ 18446744073709551615) (b0 : 0 ≤ b) (hne : ¬ b = 0) : IntKind.u64.wrap (a - IntKind.u64.wrap (a / b * b)) = a % b := by
  have h := Int.mul_ediv_add_emod a b
  have h1 := Int.emod_nonneg a hne
  have h2 : 0 ≤ a / b * b := Int.mul_nonneg (Int.ediv_nonneg a0 b0) b0
  have h3 : b * (a / b) = a / b * b := Int.mul_comm _ _
  rw [IntWalk.u64_in (a / b * b) (by omega), IntWalk.u64_in _ (by omega)]
  omega

theorem div_bd (a b : Int) (a0 : 0 ≤ a) (b0 : 0 ≤ b) : 0 ≤ a / b ∧ a / b ≤ a := ⟨Int.ediv_nonneg a0 b0, Int.ediv_le_self _ a0⟩
theorem mod_bd (a b : Int) (a0 : 0 ≤ a) (b0 : 0 ≤ b) (hne : ¬ b = 0) : 0 ≤ a % b ∧ a % b ≤ a := by
  have h := Int.mul_ediv_add_emod a b
  have h1 := Int.emod_nonneg a hne
  have h2 : 0 ≤ b * (a / b) := Int.mul_nonneg b0 (Int.ediv_nonneg a0 b0)
  omega

theorem each_and (a b : Int) (a0 : 0 ≤ a) (a1 : a ≤ 18446744073709551615) (b0 : 0 ≤ b) (b1 : b ≤ 18446744073709551615) : ((gather (eachF 6 a b) 64 : Nat) : Int) = bits BinOp.and IntKind.u64 a b := by
  obtain ⟨a, rfl⟩ := Int.eq_ofNat_of_zero_le a0
  obtain ⟨b, rfl⟩ := Int.eq_ofNat_of_zero_le b0
  rw [gather_and a b (by omega) (by omega), u64_and_nat _ _ (by omega) (by omega)]
theorem each_or (a b : Int) (a0 : 0 ≤ a) (a1 : a ≤ 18446744073709551615) (b0 : 0 ≤ b) (b1 : b ≤ 18446744073709551615) : ((gather (eachF 7 a b) 64 : Nat) : Int) = bits BinOp.or IntKind.u64 a b := by
  obtain ⟨a, rfl⟩ := Int.eq_ofNat_of_zero_le a0
  obtain ⟨b, rfl⟩ := Int.eq_ofNat_of_zero_le b0
  rw [gather_or a b (by omega) (by omega), u64_or_nat _ _ (by omega) (by omega)]
theorem each_xor (a b : Int) (a0 : 0 ≤ a) (a1 : a ≤ 18446744073709551615) (b0 : 0 ≤ b) (b1 : b ≤ 18446744073709551615) : ((gather (eachF 8 a b) 64 : Nat) : Int) = bits BinOp.xor IntKind.u64 a b := by
  obtain ⟨a, rfl⟩ := Int.eq_ofNat_of_zero_le a0
  obtain ⟨b, rfl⟩ := Int.eq_ofNat_of_zero_le b0
  rw [gather_xor a b (by omega) (by omega), u64_xor_nat _ _ (by omega) (by omega)]

theorem gather_bd (f : Nat → Bool) (n : Nat) (hn : n ≤ 64) : 0 ≤ ((gather f n : Nat) : Int) ∧ ((gather f n : Nat) : Int) ≤ 18446744073709551615 := by
  have h := gather_lt f n
  have h2 : 2 ^ n ≤ 2 ^ 64 := Nat.pow_le_pow_right (by decide) hn
  omega

theorem shl_eq (a s : Int) (W : Nat) (a0 : 0 ≤ a) (s0 : 0 ≤ s) : ((gather (movedF a s W false) W : Nat) : Int) = (a * 2 ^ s.toNat) % 2 ^ W := by
  obtain ⟨a, rfl⟩ := Int.eq_ofNat_of_zero_le a0
  obtain ⟨s, rfl⟩ := Int.eq_ofNat_of_zero_le s0
  rw [gather_shl a s W]; simp
theorem shr_eq (a s : Int) (W : Nat) (a0 : 0 ≤ a) (a1 : a < 2 ^ W) (s0 : 0 ≤ s) : ((gather (movedF a (-s) W false) W : Nat) : Int) = a / 2 ^ s.toNat := by
  obtain ⟨a, rfl⟩ := Int.eq_ofNat_of_zero_le a0
  obtain ⟨s, rfl⟩ := Int.eq_ofNat_of_zero_le s0
  rw [gather_shr a s W (by exact_mod_cast a1)]; simp
theorem sar_eq (a s : Int) (W : Nat) (hW : 0 < W) (a0 : 0 ≤ a) (a1 : a < 2 ^ W) (s0 : 0 ≤ s) (s1 : s < W) :
    ((gather (movedF a (-s) W (a.toNat.testBit (W - 1))) W : Nat) : Int) = ((if 2 ^ (W - 1) ≤ a then a - 2 ^ W else a) / 2 ^ s.toNat) % 2 ^ W := by
  obtain ⟨a, rfl⟩ := Int.eq_ofNat_of_zero_le a0
  obtain ⟨s, rfl⟩ := Int.eq_ofNat_of_zero_le s0
  have h := gather_sar a s W hW (by exact_mod_cast a1) (by omega)
  simp only [Int.toNat_natCast]
  rw [h]
  have e : (2 ^ (W - 1) ≤ a) ↔ ((2 : Int) ^ (W - 1) ≤ (a : Int)) := by
    constructor
    · intro h; exact_mod_cast h
    · intro h; exact_mod_cast h
  by_cases hc : 2 ^ (W - 1) ≤ a
  · rw [if_pos hc, if_pos (e.1 hc)]
  · rw [if_neg hc, if_neg (fun h => hc (e.2 h))]

theorem wrap64_sgn (a : Int) (a0 : 0 ≤ a) (a1 : a ≤ 18446744073709551615) : wrap64 a = if 2 ^ (64 - 1) ≤ a then a - 2 ^ 64 else a := by
  unfold wrap64; split <;> omega
theorem wrap32_sgn (a : Int) (a0 : 0 ≤ a) : wrap32 a = if 2 ^ (32 - 1) ≤ a % 4294967296 then a % 4294967296 - 2 ^ 32 else a % 4294967296 := by
  unfold wrap32; split <;> omega

theorem u64_mod (x : Int) : IntKind.u64.wrap x = x % 2 ^ 64 := by rw [IntKind.wrap_u64]; rfl

/-- Cut to 64 bits first, or at once: the lowest 32 are the same. -/
theorem cut_twice (x : Int) : x % 18446744073709551616 % 4294967296 = x % 4294967296 := by omega

def doRaw (op : Int) (nar : Bool) (a b : Int) : Int := bits BinOp.and IntKind.u64 (opVal op (cut nar a) (cut nar b) (sgn nar a) (wide nar)) (most nar)
theorem eq1_wide (a b : Int) (a0 : 0 ≤ a) (a1 : a ≤ 18446744073709551615) (b0 : 0 ≤ b) (b1 : b ≤ 18446744073709551615) : (IntKind.u64.wrap (a + b)) = doRaw 1 false a b := by
  show _ = bits BinOp.and IntKind.u64 (IntKind.u64.wrap (a + b)) 18446744073709551615
  rw [and_all _ (u64_bd _).1 (u64_bd _).2]
theorem eq2_wide (a b : Int) (a0 : 0 ≤ a) (a1 : a ≤ 18446744073709551615) (b0 : 0 ≤ b) (b1 : b ≤ 18446744073709551615) : (IntKind.u64.wrap (a - b)) = doRaw 2 false a b := by
  show _ = bits BinOp.and IntKind.u64 (IntKind.u64.wrap (a - b)) 18446744073709551615
  rw [and_all _ (u64_bd _).1 (u64_bd _).2]
theorem eq3_wide (a b : Int) (a0 : 0 ≤ a) (a1 : a ≤ 18446744073709551615) (b0 : 0 ≤ b) (b1 : b ≤ 18446744073709551615) : (IntKind.u64.wrap (a * b)) = doRaw 3 false a b := by
  show _ = bits BinOp.and IntKind.u64 (IntKind.u64.wrap (a * b)) 18446744073709551615
  rw [and_all _ (u64_bd _).1 (u64_bd _).2]
theorem eq4_wide (a b : Int) (a0 : 0 ≤ a) (a1 : a ≤ 18446744073709551615) (b0 : 0 ≤ b) (b1 : b ≤ 18446744073709551615) (hne : ¬ b = 0) : (a / b) = doRaw 4 false a b := by
  show _ = bits BinOp.and IntKind.u64 (a / b) 18446744073709551615
  have h := div_bd a b a0 b0
  rw [and_all _ (by omega) (by omega)]
theorem eq5_wide (a b : Int) (a0 : 0 ≤ a) (a1 : a ≤ 18446744073709551615) (b0 : 0 ≤ b) (b1 : b ≤ 18446744073709551615) (hne : ¬ b = 0) : (IntKind.u64.wrap (a - IntKind.u64.wrap (a / b * b))) = doRaw 5 false a b := by
  show _ = bits BinOp.and IntKind.u64 (a % b) 18446744073709551615
  have h := mod_bd a b a0 b0 hne
  rw [mod_eq a b a0 a1 b0 hne, and_all _ (by omega) (by omega)]
theorem eq6_wide (a b : Int) (a0 : 0 ≤ a) (a1 : a ≤ 18446744073709551615) (b0 : 0 ≤ b) (b1 : b ≤ 18446744073709551615) : (((gather (eachF 6 (a) (b)) 64 : Nat) : Int)) = doRaw 6 false a b := by
  show _ = bits BinOp.and IntKind.u64 (bits BinOp.and IntKind.u64 a b) 18446744073709551615
  have h := gather_bd (eachF 6 a b) 64 (by omega)
  rw [← each_and a b a0 a1 b0 b1, and_all _ h.1 h.2]
theorem eq7_wide (a b : Int) (a0 : 0 ≤ a) (a1 : a ≤ 18446744073709551615) (b0 : 0 ≤ b) (b1 : b ≤ 18446744073709551615) : (((gather (eachF 7 (a) (b)) 64 : Nat) : Int)) = doRaw 7 false a b := by
  show _ = bits BinOp.and IntKind.u64 (bits BinOp.or IntKind.u64 a b) 18446744073709551615
  have h := gather_bd (eachF 7 a b) 64 (by omega)
  rw [← each_or a b a0 a1 b0 b1, and_all _ h.1 h.2]
theorem eq8_wide (a b : Int) (a0 : 0 ≤ a) (a1 : a ≤ 18446744073709551615) (b0 : 0 ≤ b) (b1 : b ≤ 18446744073709551615) : (((gather (eachF 8 (a) (b)) 64 : Nat) : Int)) = doRaw 8 false a b := by
  show _ = bits BinOp.and IntKind.u64 (bits BinOp.xor IntKind.u64 a b) 18446744073709551615
  have h := gather_bd (eachF 8 a b) 64 (by omega)
  rw [← each_xor a b a0 a1 b0 b1, and_all _ h.1 h.2]
theorem eq9_wide (a b : Int) (a0 : 0 ≤ a) (a1 : a ≤ 18446744073709551615) (b0 : 0 ≤ b) (b1 : b ≤ 18446744073709551615) : (((gather (movedF (a) (b % 64) 64 false) 64 : Nat) : Int)) = doRaw 9 false a b := by
  show _ = bits BinOp.and IntKind.u64 (IntKind.u64.wrap (a * 2 ^ min (b % 64).toNat 64)) 18446744073709551615
  have hs : 0 ≤ b % 64 := by omega
  have hs' : b % 64 < 64 := by omega
  rw [and_all _ (u64_bd _).1 (u64_bd _).2, pow_min _ 64 hs hs' (by omega), u64_mod]
  exact shl_eq a (b % 64) 64 a0 hs
theorem eq10_wide (a b : Int) (a0 : 0 ≤ a) (a1 : a ≤ 18446744073709551615) (b0 : 0 ≤ b) (b1 : b ≤ 18446744073709551615) : (((gather (movedF (a) (-(b % 64)) 64 false) 64 : Nat) : Int)) = doRaw 10 false a b := by
  show _ = bits BinOp.and IntKind.u64 (a / 2 ^ min (b % 64).toNat 64) 18446744073709551615
  have hs : 0 ≤ b % 64 := by omega
  have hs' : b % 64 < 64 := by omega
  have h := gather_bd (movedF a (-(b % 64)) 64 false) 64 (by omega)
  rw [pow_min _ 64 hs hs' (by omega)]
  have e := shr_eq a (b % 64) 64 a0 (by omega) hs
  rw [← e]
  exact (and_all _ h.1 h.2).symm
theorem eq11_wide (a b : Int) (a0 : 0 ≤ a) (a1 : a ≤ 18446744073709551615) (b0 : 0 ≤ b) (b1 : b ≤ 18446744073709551615) : (((gather (movedF (a) (-(b % 64)) 64 ((a).toNat.testBit 63)) 64 : Nat) : Int)) = doRaw 11 false a b := by
  show _ = bits BinOp.and IntKind.u64 (IntKind.u64.wrap ((wrap64 a) / 2 ^ min (b % 64).toNat 64)) 18446744073709551615
  have hs : 0 ≤ b % 64 := by omega
  have hs' : b % 64 < 64 := by omega
  rw [and_all _ (u64_bd _).1 (u64_bd _).2, pow_min _ 64 hs hs' (by omega), u64_mod, wrap64_sgn a a0 a1]
  exact sar_eq a (b % 64) 64 (by decide) a0 (by omega) hs hs'
theorem eq12_wide (a b : Int) (a0 : 0 ≤ a) (a1 : a ≤ 18446744073709551615) (b0 : 0 ≤ b) (b1 : b ≤ 18446744073709551615) : (b) = doRaw 12 false a b := by
  show _ = bits BinOp.and IntKind.u64 (b) 18446744073709551615
  rw [and_all _ b0 b1]
theorem eq13_wide (a b : Int) (a0 : 0 ≤ a) (a1 : a ≤ 18446744073709551615) (b0 : 0 ≤ b) (b1 : b ≤ 18446744073709551615) : (IntKind.u64.wrap (-a)) = doRaw 13 false a b := by
  show _ = bits BinOp.and IntKind.u64 (IntKind.u64.wrap (-a)) 18446744073709551615
  rw [and_all _ (u64_bd _).1 (u64_bd _).2]
theorem eq1_narrow (a b : Int) (a0 : 0 ≤ a) (a1 : a ≤ 18446744073709551615) (b0 : 0 ≤ b) (b1 : b ≤ 18446744073709551615) : (bits BinOp.and IntKind.u64 ((a % 4294967296) + (b % 4294967296)) 4294967295) = doRaw 1 true a b := by
  show _ = bits BinOp.and IntKind.u64 (IntKind.u64.wrap ((a % 4294967296) + (b % 4294967296))) 4294967295
  have a2 : 0 ≤ a % 4294967296 := by omega
  have a3 : a % 4294967296 ≤ 4294967295 := by omega
  have b2 : 0 ≤ b % 4294967296 := by omega
  have b3 : b % 4294967296 ≤ 4294967295 := by omega
  rw [IntWalk.u64_in _ (by omega)]
theorem eq2_narrow (a b : Int) (a0 : 0 ≤ a) (a1 : a ≤ 18446744073709551615) (b0 : 0 ≤ b) (b1 : b ≤ 18446744073709551615) : (bits BinOp.and IntKind.u64 (IntKind.u64.wrap ((a % 4294967296) - (b % 4294967296))) 4294967295) = doRaw 2 true a b := by
  show _ = bits BinOp.and IntKind.u64 (IntKind.u64.wrap ((a % 4294967296) - (b % 4294967296))) 4294967295
  have a2 : 0 ≤ a % 4294967296 := by omega
  have a3 : a % 4294967296 ≤ 4294967295 := by omega
  have b2 : 0 ≤ b % 4294967296 := by omega
  have b3 : b % 4294967296 ≤ 4294967295 := by omega
  rfl
theorem eq3_narrow (a b : Int) (a0 : 0 ≤ a) (a1 : a ≤ 18446744073709551615) (b0 : 0 ≤ b) (b1 : b ≤ 18446744073709551615) : (bits BinOp.and IntKind.u64 (IntKind.u64.wrap ((a % 4294967296) * (b % 4294967296))) 4294967295) = doRaw 3 true a b := by
  show _ = bits BinOp.and IntKind.u64 (IntKind.u64.wrap ((a % 4294967296) * (b % 4294967296))) 4294967295
  have a2 : 0 ≤ a % 4294967296 := by omega
  have a3 : a % 4294967296 ≤ 4294967295 := by omega
  have b2 : 0 ≤ b % 4294967296 := by omega
  have b3 : b % 4294967296 ≤ 4294967295 := by omega
  rfl
theorem eq4_narrow (a b : Int) (a0 : 0 ≤ a) (a1 : a ≤ 18446744073709551615) (b0 : 0 ≤ b) (b1 : b ≤ 18446744073709551615) (hne : ¬ (b % 4294967296) = 0) : (bits BinOp.and IntKind.u64 ((a % 4294967296) / (b % 4294967296)) 4294967295) = doRaw 4 true a b := by
  show _ = bits BinOp.and IntKind.u64 ((a % 4294967296) / (b % 4294967296)) 4294967295
  have a2 : 0 ≤ a % 4294967296 := by omega
  have a3 : a % 4294967296 ≤ 4294967295 := by omega
  have b2 : 0 ≤ b % 4294967296 := by omega
  have b3 : b % 4294967296 ≤ 4294967295 := by omega
  rfl
theorem eq5_narrow (a b : Int) (a0 : 0 ≤ a) (a1 : a ≤ 18446744073709551615) (b0 : 0 ≤ b) (b1 : b ≤ 18446744073709551615) (hne : ¬ (b % 4294967296) = 0) : (bits BinOp.and IntKind.u64 (IntKind.u64.wrap ((a % 4294967296) - IntKind.u64.wrap ((a % 4294967296) / (b % 4294967296) * (b % 4294967296)))) 4294967295) = doRaw 5 true a b := by
  show _ = bits BinOp.and IntKind.u64 ((a % 4294967296) % (b % 4294967296)) 4294967295
  have a2 : 0 ≤ a % 4294967296 := by omega
  have a3 : a % 4294967296 ≤ 4294967295 := by omega
  have b2 : 0 ≤ b % 4294967296 := by omega
  have b3 : b % 4294967296 ≤ 4294967295 := by omega
  rw [mod_eq _ _ a2 (by omega) b2 hne]
theorem eq6_narrow (a b : Int) (a0 : 0 ≤ a) (a1 : a ≤ 18446744073709551615) (b0 : 0 ≤ b) (b1 : b ≤ 18446744073709551615) : (bits BinOp.and IntKind.u64 (((gather (eachF 6 ((a % 4294967296)) ((b % 4294967296))) 64 : Nat) : Int)) 4294967295) = doRaw 6 true a b := by
  show _ = bits BinOp.and IntKind.u64 (bits BinOp.and IntKind.u64 (a % 4294967296) (b % 4294967296)) 4294967295
  have a2 : 0 ≤ a % 4294967296 := by omega
  have a3 : a % 4294967296 ≤ 4294967295 := by omega
  have b2 : 0 ≤ b % 4294967296 := by omega
  have b3 : b % 4294967296 ≤ 4294967295 := by omega
  rw [← each_and _ _ a2 (by omega) b2 (by omega)]
theorem eq7_narrow (a b : Int) (a0 : 0 ≤ a) (a1 : a ≤ 18446744073709551615) (b0 : 0 ≤ b) (b1 : b ≤ 18446744073709551615) : (bits BinOp.and IntKind.u64 (((gather (eachF 7 ((a % 4294967296)) ((b % 4294967296))) 64 : Nat) : Int)) 4294967295) = doRaw 7 true a b := by
  show _ = bits BinOp.and IntKind.u64 (bits BinOp.or IntKind.u64 (a % 4294967296) (b % 4294967296)) 4294967295
  have a2 : 0 ≤ a % 4294967296 := by omega
  have a3 : a % 4294967296 ≤ 4294967295 := by omega
  have b2 : 0 ≤ b % 4294967296 := by omega
  have b3 : b % 4294967296 ≤ 4294967295 := by omega
  rw [← each_or _ _ a2 (by omega) b2 (by omega)]
theorem eq8_narrow (a b : Int) (a0 : 0 ≤ a) (a1 : a ≤ 18446744073709551615) (b0 : 0 ≤ b) (b1 : b ≤ 18446744073709551615) : (bits BinOp.and IntKind.u64 (((gather (eachF 8 ((a % 4294967296)) ((b % 4294967296))) 64 : Nat) : Int)) 4294967295) = doRaw 8 true a b := by
  show _ = bits BinOp.and IntKind.u64 (bits BinOp.xor IntKind.u64 (a % 4294967296) (b % 4294967296)) 4294967295
  have a2 : 0 ≤ a % 4294967296 := by omega
  have a3 : a % 4294967296 ≤ 4294967295 := by omega
  have b2 : 0 ≤ b % 4294967296 := by omega
  have b3 : b % 4294967296 ≤ 4294967295 := by omega
  rw [← each_xor _ _ a2 (by omega) b2 (by omega)]
theorem eq9_narrow (a b : Int) (a0 : 0 ≤ a) (a1 : a ≤ 18446744073709551615) (b0 : 0 ≤ b) (b1 : b ≤ 18446744073709551615) : (bits BinOp.and IntKind.u64 (((gather (movedF ((a % 4294967296)) (b % 32) 32 false) 32 : Nat) : Int)) 4294967295) = doRaw 9 true a b := by
  show _ = bits BinOp.and IntKind.u64 (IntKind.u64.wrap ((a % 4294967296) * 2 ^ min ((b % 4294967296) % 32).toNat 64)) 4294967295
  have a2 : 0 ≤ a % 4294967296 := by omega
  have a3 : a % 4294967296 ≤ 4294967295 := by omega
  have b2 : 0 ≤ b % 4294967296 := by omega
  have b3 : b % 4294967296 ≤ 4294967295 := by omega
  have hs : 0 ≤ b % 32 := by omega
  have hs' : b % 32 < 32 := by omega
  have h := gather_bd (movedF (a % 4294967296) (b % 32) 32 false) 32 (by omega)
  have hb : b % 4294967296 % 32 = b % 32 := by omega
  have e := shl_eq (a % 4294967296) (b % 32) 32 a2 hs
  rw [hb, pow_min _ 32 hs hs' (by omega), and_low _ (u64_bd _).1 (u64_bd _).2, and_low _ h.1 h.2, IntKind.wrap_u64, cut_twice]
  have e' : ((gather (movedF (a % 4294967296) (b % 32) 32 false) 32 : Nat) : Int) = (a % 4294967296 * 2 ^ (b % 32).toNat) % 4294967296 := e
  rw [e']
  omega
theorem eq10_narrow (a b : Int) (a0 : 0 ≤ a) (a1 : a ≤ 18446744073709551615) (b0 : 0 ≤ b) (b1 : b ≤ 18446744073709551615) : (bits BinOp.and IntKind.u64 (((gather (movedF ((a % 4294967296)) (-(b % 32)) 32 false) 32 : Nat) : Int)) 4294967295) = doRaw 10 true a b := by
  show _ = bits BinOp.and IntKind.u64 ((a % 4294967296) / 2 ^ min ((b % 4294967296) % 32).toNat 64) 4294967295
  have a2 : 0 ≤ a % 4294967296 := by omega
  have a3 : a % 4294967296 ≤ 4294967295 := by omega
  have b2 : 0 ≤ b % 4294967296 := by omega
  have b3 : b % 4294967296 ≤ 4294967295 := by omega
  have hs : 0 ≤ b % 32 := by omega
  have hs' : b % 32 < 32 := by omega
  have hb : b % 4294967296 % 32 = b % 32 := by omega
  have e := shr_eq (a % 4294967296) (b % 32) 32 a2 (by omega) hs
  rw [hb, pow_min _ 32 hs hs' (by omega), ← e]
  rfl
theorem eq11_narrow (a b : Int) (a0 : 0 ≤ a) (a1 : a ≤ 18446744073709551615) (b0 : 0 ≤ b) (b1 : b ≤ 18446744073709551615) : (bits BinOp.and IntKind.u64 (((gather (movedF ((a % 4294967296)) (-(b % 32)) 32 (((a % 4294967296)).toNat.testBit 31)) 32 : Nat) : Int)) 4294967295) = doRaw 11 true a b := by
  show _ = bits BinOp.and IntKind.u64 (IntKind.u64.wrap ((wrap32 a) / 2 ^ min ((b % 4294967296) % 32).toNat 64)) 4294967295
  have a2 : 0 ≤ a % 4294967296 := by omega
  have a3 : a % 4294967296 ≤ 4294967295 := by omega
  have b2 : 0 ≤ b % 4294967296 := by omega
  have b3 : b % 4294967296 ≤ 4294967295 := by omega
  have hs : 0 ≤ b % 32 := by omega
  have hs' : b % 32 < 32 := by omega
  have hb : b % 4294967296 % 32 = b % 32 := by omega
  have h := gather_bd (movedF (a % 4294967296) (-(b % 32)) 32 ((a % 4294967296).toNat.testBit 31)) 32 (by omega)
  have e := sar_eq (a % 4294967296) (b % 32) 32 (by decide) a2 (by omega) hs hs'
  rw [hb, pow_min _ 32 hs hs' (by omega), and_low _ (u64_bd _).1 (u64_bd _).2, and_low _ h.1 h.2, IntKind.wrap_u64, cut_twice, wrap32_sgn a a0]
  have e' : ((gather (movedF (a % 4294967296) (-(b % 32)) 32 ((a % 4294967296).toNat.testBit 31)) 32 : Nat) : Int) = ((if 2 ^ (32 - 1) ≤ a % 4294967296 then a % 4294967296 - 2 ^ 32 else a % 4294967296) / 2 ^ (b % 32).toNat) % 4294967296 := e
  rw [e']
  omega
theorem eq12_narrow (a b : Int) (a0 : 0 ≤ a) (a1 : a ≤ 18446744073709551615) (b0 : 0 ≤ b) (b1 : b ≤ 18446744073709551615) : (bits BinOp.and IntKind.u64 ((b % 4294967296)) 4294967295) = doRaw 12 true a b := by
  show _ = bits BinOp.and IntKind.u64 ((b % 4294967296)) 4294967295
  have a2 : 0 ≤ a % 4294967296 := by omega
  have a3 : a % 4294967296 ≤ 4294967295 := by omega
  have b2 : 0 ≤ b % 4294967296 := by omega
  have b3 : b % 4294967296 ≤ 4294967295 := by omega
  rfl
theorem eq13_narrow (a b : Int) (a0 : 0 ≤ a) (a1 : a ≤ 18446744073709551615) (b0 : 0 ≤ b) (b1 : b ≤ 18446744073709551615) : (bits BinOp.and IntKind.u64 (IntKind.u64.wrap (-(a % 4294967296))) 4294967295) = doRaw 13 true a b := by
  show _ = bits BinOp.and IntKind.u64 (IntKind.u64.wrap (-(a % 4294967296))) 4294967295
  have a2 : 0 ≤ a % 4294967296 := by omega
  have a3 : a % 4294967296 ≤ 4294967295 := by omega
  have b2 : 0 ≤ b % 4294967296 := by omega
  have b3 : b % 4294967296 ≤ 4294967295 := by omega
  rfl

/-- WHAT barbicanref01.Do ANSWERS. -/
theorem Do_any (op : Int) (nar : Bool) (a b : Int) (w : World) (a0 : 0 ≤ a) (a1 : a ≤ 18446744073709551615) (b0 : 0 ≤ b) (b1 : b ≤ 18446744073709551615) :
    Calls Try.prog 10 #[.int .u8 op, .bool nar, .int .u64 a, .int .u64 b] w fun e w' => e = .returned (.tuple #[.int .u64 (doAns op nar a b), .int .i64 (doErr op nar b)]) ∧ New w w' := by
  unfold doAns doErr
  by_cases h : 1 ≤ op ∧ op ≤ 13
  · by_cases hb : opBad op (cut nar b)
    · rw [if_pos h, if_pos hb, if_neg (by decide)]
      exact (Do_nought op hb.1 nar a b hb.2 w a0 a1 b0 b1).mono fun e w' ⟨he, hw⟩ => ⟨he, hw ▸ Below.refl _ _⟩
    · rw [if_pos h, if_neg hb, if_pos rfl]
      have hc : op = 1 ∨ op = 2 ∨ op = 3 ∨ op = 4 ∨ op = 5 ∨ op = 6 ∨ op = 7 ∨ op = 8 ∨ op = 9 ∨ op = 10 ∨ op = 11 ∨ op = 12 ∨ op = 13 := by omega
      rcases hc with rfl | rfl | rfl | rfl | rfl | rfl | rfl | rfl | rfl | rfl | rfl | rfl | rfl <;> cases nar
      · exact (Do1_wide a b w a0 a1 b0 b1).mono fun e w' ⟨he, hw⟩ => ⟨he.trans (congrArg (fun x => Ending.returned (.tuple #[.int .u64 x, .int .i64 0])) (eq1_wide a b a0 a1 b0 b1)), hw ▸ Below.refl _ _⟩
      · exact (Do1_narrow a b w a0 a1 b0 b1).mono fun e w' ⟨he, hw⟩ => ⟨he.trans (congrArg (fun x => Ending.returned (.tuple #[.int .u64 x, .int .i64 0])) (eq1_narrow a b a0 a1 b0 b1)), hw ▸ Below.refl _ _⟩
      · exact (Do2_wide a b w a0 a1 b0 b1).mono fun e w' ⟨he, hw⟩ => ⟨he.trans (congrArg (fun x => Ending.returned (.tuple #[.int .u64 x, .int .i64 0])) (eq2_wide a b a0 a1 b0 b1)), hw ▸ Below.refl _ _⟩
      · exact (Do2_narrow a b w a0 a1 b0 b1).mono fun e w' ⟨he, hw⟩ => ⟨he.trans (congrArg (fun x => Ending.returned (.tuple #[.int .u64 x, .int .i64 0])) (eq2_narrow a b a0 a1 b0 b1)), hw ▸ Below.refl _ _⟩
      · exact (Do3_wide a b w a0 a1 b0 b1).mono fun e w' ⟨he, hw⟩ => ⟨he.trans (congrArg (fun x => Ending.returned (.tuple #[.int .u64 x, .int .i64 0])) (eq3_wide a b a0 a1 b0 b1)), hw ▸ Below.refl _ _⟩
      · exact (Do3_narrow a b w a0 a1 b0 b1).mono fun e w' ⟨he, hw⟩ => ⟨he.trans (congrArg (fun x => Ending.returned (.tuple #[.int .u64 x, .int .i64 0])) (eq3_narrow a b a0 a1 b0 b1)), hw ▸ Below.refl _ _⟩
      · exact (Do4_wide a b w a0 a1 b0 b1 (fun hz => hb ⟨by omega, hz⟩)).mono fun e w' ⟨he, hw⟩ => ⟨he.trans (congrArg (fun x => Ending.returned (.tuple #[.int .u64 x, .int .i64 0])) (eq4_wide a b a0 a1 b0 b1 (fun hz => hb ⟨by omega, hz⟩))), hw ▸ Below.refl _ _⟩
      · exact (Do4_narrow a b w a0 a1 b0 b1 (fun hz => hb ⟨by omega, hz⟩)).mono fun e w' ⟨he, hw⟩ => ⟨he.trans (congrArg (fun x => Ending.returned (.tuple #[.int .u64 x, .int .i64 0])) (eq4_narrow a b a0 a1 b0 b1 (fun hz => hb ⟨by omega, hz⟩))), hw ▸ Below.refl _ _⟩
      · exact (Do5_wide a b w a0 a1 b0 b1 (fun hz => hb ⟨by omega, hz⟩)).mono fun e w' ⟨he, hw⟩ => ⟨he.trans (congrArg (fun x => Ending.returned (.tuple #[.int .u64 x, .int .i64 0])) (eq5_wide a b a0 a1 b0 b1 (fun hz => hb ⟨by omega, hz⟩))), hw ▸ Below.refl _ _⟩
      · exact (Do5_narrow a b w a0 a1 b0 b1 (fun hz => hb ⟨by omega, hz⟩)).mono fun e w' ⟨he, hw⟩ => ⟨he.trans (congrArg (fun x => Ending.returned (.tuple #[.int .u64 x, .int .i64 0])) (eq5_narrow a b a0 a1 b0 b1 (fun hz => hb ⟨by omega, hz⟩))), hw ▸ Below.refl _ _⟩
      · exact (Do6_wide a b w a0 a1 b0 b1).mono fun e w' ⟨he, hw⟩ => ⟨he.trans (congrArg (fun x => Ending.returned (.tuple #[.int .u64 x, .int .i64 0])) (eq6_wide a b a0 a1 b0 b1)), hw ▸ Below.refl _ _⟩
      · exact (Do6_narrow a b w a0 a1 b0 b1).mono fun e w' ⟨he, hw⟩ => ⟨he.trans (congrArg (fun x => Ending.returned (.tuple #[.int .u64 x, .int .i64 0])) (eq6_narrow a b a0 a1 b0 b1)), hw ▸ Below.refl _ _⟩
      · exact (Do7_wide a b w a0 a1 b0 b1).mono fun e w' ⟨he, hw⟩ => ⟨he.trans (congrArg (fun x => Ending.returned (.tuple #[.int .u64 x, .int .i64 0])) (eq7_wide a b a0 a1 b0 b1)), hw ▸ Below.refl _ _⟩
      · exact (Do7_narrow a b w a0 a1 b0 b1).mono fun e w' ⟨he, hw⟩ => ⟨he.trans (congrArg (fun x => Ending.returned (.tuple #[.int .u64 x, .int .i64 0])) (eq7_narrow a b a0 a1 b0 b1)), hw ▸ Below.refl _ _⟩
      · exact (Do8_wide a b w a0 a1 b0 b1).mono fun e w' ⟨he, hw⟩ => ⟨he.trans (congrArg (fun x => Ending.returned (.tuple #[.int .u64 x, .int .i64 0])) (eq8_wide a b a0 a1 b0 b1)), hw ▸ Below.refl _ _⟩
      · exact (Do8_narrow a b w a0 a1 b0 b1).mono fun e w' ⟨he, hw⟩ => ⟨he.trans (congrArg (fun x => Ending.returned (.tuple #[.int .u64 x, .int .i64 0])) (eq8_narrow a b a0 a1 b0 b1)), hw ▸ Below.refl _ _⟩
      · exact (Do9_wide a b w a0 a1 b0 b1).mono fun e w' ⟨he, hw⟩ => ⟨he.trans (congrArg (fun x => Ending.returned (.tuple #[.int .u64 x, .int .i64 0])) (eq9_wide a b a0 a1 b0 b1)), hw ▸ Below.refl _ _⟩
      · exact (Do9_narrow a b w a0 a1 b0 b1).mono fun e w' ⟨he, hw⟩ => ⟨he.trans (congrArg (fun x => Ending.returned (.tuple #[.int .u64 x, .int .i64 0])) (eq9_narrow a b a0 a1 b0 b1)), hw ▸ Below.refl _ _⟩
      · exact (Do10_wide a b w a0 a1 b0 b1).mono fun e w' ⟨he, hw⟩ => ⟨he.trans (congrArg (fun x => Ending.returned (.tuple #[.int .u64 x, .int .i64 0])) (eq10_wide a b a0 a1 b0 b1)), hw ▸ Below.refl _ _⟩
      · exact (Do10_narrow a b w a0 a1 b0 b1).mono fun e w' ⟨he, hw⟩ => ⟨he.trans (congrArg (fun x => Ending.returned (.tuple #[.int .u64 x, .int .i64 0])) (eq10_narrow a b a0 a1 b0 b1)), hw ▸ Below.refl _ _⟩
      · exact (Do11_wide a b w a0 a1 b0 b1).mono fun e w' ⟨he, hw⟩ => ⟨he.trans (congrArg (fun x => Ending.returned (.tuple #[.int .u64 x, .int .i64 0])) (eq11_wide a b a0 a1 b0 b1)), hw⟩
      · exact (Do11_narrow a b w a0 a1 b0 b1).mono fun e w' ⟨he, hw⟩ => ⟨he.trans (congrArg (fun x => Ending.returned (.tuple #[.int .u64 x, .int .i64 0])) (eq11_narrow a b a0 a1 b0 b1)), hw⟩
      · exact (Do12_wide a b w a0 a1 b0 b1).mono fun e w' ⟨he, hw⟩ => ⟨he.trans (congrArg (fun x => Ending.returned (.tuple #[.int .u64 x, .int .i64 0])) (eq12_wide a b a0 a1 b0 b1)), hw ▸ Below.refl _ _⟩
      · exact (Do12_narrow a b w a0 a1 b0 b1).mono fun e w' ⟨he, hw⟩ => ⟨he.trans (congrArg (fun x => Ending.returned (.tuple #[.int .u64 x, .int .i64 0])) (eq12_narrow a b a0 a1 b0 b1)), hw ▸ Below.refl _ _⟩
      · exact (Do13_wide a b w a0 a1 b0 b1).mono fun e w' ⟨he, hw⟩ => ⟨he.trans (congrArg (fun x => Ending.returned (.tuple #[.int .u64 x, .int .i64 0])) (eq13_wide a b a0 a1 b0 b1)), hw ▸ Below.refl _ _⟩
      · exact (Do13_narrow a b w a0 a1 b0 b1).mono fun e w' ⟨he, hw⟩ => ⟨he.trans (congrArg (fun x => Ending.returned (.tuple #[.int .u64 x, .int .i64 0])) (eq13_narrow a b a0 a1 b0 b1)), hw ▸ Below.refl _ _⟩
  · rw [if_neg h, if_neg (by decide)]
    exact (Do_none op h nar a b w).mono fun e w' ⟨he, hw⟩ => ⟨he, hw ▸ Below.refl _ _⟩

end Go.Proofs.Ytkegoiibhleflaa.ref
