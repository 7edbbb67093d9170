/-
  The numbers of alu, without any program: what is put together bit by bit is what Go's operators make.
-/
import Derived.Test.YtkegoiibhleflaaRef
namespace Go.Proofs.Ytkegoiibhleflaa.ref
open Go.RowKit Go.Proofs.Ytkegoiibhleflaa.alu
set_option linter.unusedVariables false

theorem and_all (x : Int) (h0 : 0 ≤ x) (h1 : x ≤ 18446744073709551615) : bits BinOp.and IntKind.u64 x 18446744073709551615 = x := by
  obtain ⟨n, rfl⟩ := Int.eq_ofNat_of_zero_le h0
  rw [show (18446744073709551615 : Int) = ((18446744073709551615 : Nat) : Int) from rfl, u64_and_nat _ _ (by omega) (by omega)]
  rw [show (18446744073709551615 : Nat) = 2 ^ 64 - 1 from rfl, Nat.and_two_pow_sub_one_eq_mod]
  omega

theorem and_low (x : Int) (h0 : 0 ≤ x) (h1 : x ≤ 18446744073709551615) : bits BinOp.and IntKind.u64 x 4294967295 = x % 4294967296 := by
  obtain ⟨n, rfl⟩ := Int.eq_ofNat_of_zero_le h0
  rw [show (4294967295 : Int) = ((4294967295 : Nat) : Int) from rfl, u64_and_nat _ _ (by omega) (by omega)]
  rw [show (4294967295 : Nat) = 2 ^ 32 - 1 from rfl, Nat.and_two_pow_sub_one_eq_mod]
  omega

theorem lt_pow {n W i : Nat} (h : n < 2 ^ W) (hi : W ≤ i) : n.testBit i = false :=
  Nat.testBit_lt_two_pow (Nat.lt_of_lt_of_le h (Nat.pow_le_pow_right (by decide) hi))

theorem gather_and (a b : Nat) (ha : a < 2 ^ 64) (hb : b < 2 ^ 64) : gather (eachF 6 a b) 64 = a &&& b := by
  apply Nat.eq_of_testBit_eq
  intro i
  rw [gather_testBit, Nat.testBit_and]
  by_cases hi : i < 64
  · simp [hi, eachF, eachB]
  · simp [hi, lt_pow ha (by omega : 64 ≤ i)]
theorem gather_or (a b : Nat) (ha : a < 2 ^ 64) (hb : b < 2 ^ 64) : gather (eachF 7 a b) 64 = a ||| b := by
  apply Nat.eq_of_testBit_eq
  intro i
  rw [gather_testBit, Nat.testBit_or]
  by_cases hi : i < 64
  · simp [hi, eachF, eachB]
  · simp [hi, lt_pow ha (by omega : 64 ≤ i), lt_pow hb (by omega : 64 ≤ i)]
theorem gather_xor (a b : Nat) (ha : a < 2 ^ 64) (hb : b < 2 ^ 64) : gather (eachF 8 a b) 64 = a ^^^ b := by
  apply Nat.eq_of_testBit_eq
  intro i
  rw [gather_testBit, Nat.testBit_xor]
  by_cases hi : i < 64
  · simp [hi, eachF, eachB]
  · simp [hi, lt_pow ha (by omega : 64 ≤ i), lt_pow hb (by omega : 64 ≤ i)]

theorem gather_shl (a s W : Nat) : gather (movedF a s W false) W = (a * 2 ^ s) % 2 ^ W := by
  apply Nat.eq_of_testBit_eq
  intro i
  rw [gather_testBit, Nat.testBit_mod_two_pow, ← Nat.shiftLeft_eq, Nat.testBit_shiftLeft]
  by_cases hi : i < W
  · by_cases hs : s ≤ i
    · have h1 : (0 : Int) ≤ (i : Int) - s ∧ (i : Int) - s < W := by omega
      have h2 : ((i : Int) - s).toNat = i - s := by omega
      simp [hi, movedF, hs, h2]
      intro; omega
    · have h1 : ¬ ((0 : Int) ≤ (i : Int) - s ∧ (i : Int) - s < W) := by omega
      simp only [hi, movedF, if_neg h1, hs]; simp
  · simp [hi]

theorem gather_shr (a s W : Nat) (ha : a < 2 ^ W) : gather (movedF a (-(s : Int)) W false) W = a / 2 ^ s := by
  apply Nat.eq_of_testBit_eq
  intro i
  rw [gather_testBit, ← Nat.shiftRight_eq_div_pow, Nat.testBit_shiftRight]
  by_cases hs : s + i < W
  · have h1 : (0 : Int) ≤ (i : Int) - -(s : Int) ∧ (i : Int) - -(s : Int) < W := by omega
    have h2 : ((i : Int) - -(s : Int)).toNat = s + i := by omega
    have hi : i < W := by omega
    simp only [hi, movedF, if_pos h1, h2]; simp
  · have h1 : ¬ ((0 : Int) ≤ (i : Int) - -(s : Int) ∧ (i : Int) - -(s : Int) < W) := by omega
    simp only [movedF, if_neg h1, lt_pow ha (by omega : W ≤ s + i)]; simp

/-- The bits above come in as the highest one is. -/
theorem gather_sar (a s W : Nat) (hW : 0 < W) (ha : a < 2 ^ W) (hs : s < W) :
    ((gather (movedF a (-(s : Int)) W (a.testBit (W - 1))) W : Nat) : Int) = ((if 2 ^ (W - 1) ≤ a then (a : Int) - 2 ^ W else (a : Int)) / 2 ^ s) % 2 ^ W := by
  have hpos : (0 : Int) < 2 ^ s := Int.pow_pos (by decide)
  have hsplit : 2 ^ W = 2 ^ (W - s) * 2 ^ s := by rw [← Nat.pow_add]; congr 1; omega
  have hdiv : a / 2 ^ s < 2 ^ (W - s) := by
    rw [Nat.div_lt_iff_lt_mul (Nat.two_pow_pos s), ← hsplit]; exact ha
  have hWs : 2 ^ (W - s) ≤ 2 ^ W := Nat.pow_le_pow_right (by decide) (by omega)
  have htop : a.testBit (W - 1) = decide (2 ^ (W - 1) ≤ a) := by
    have hw : 2 ^ W = 2 * 2 ^ (W - 1) := by rw [← Nat.pow_succ']; congr 1; omega
    rw [Nat.testBit_eq_decide_div_mod_eq]
    by_cases h : 2 ^ (W - 1) ≤ a
    · have : a / 2 ^ (W - 1) = 1 := by
        apply Nat.div_eq_of_lt_le <;> omega
      simp [h, this]
    · have : a / 2 ^ (W - 1) = 0 := Nat.div_eq_of_lt (by omega)
      simp [h, this]
  by_cases h : 2 ^ (W - 1) ≤ a
  · rw [if_pos h, htop]
    have e1 : (a : Int) - 2 ^ W = (a : Int) + (-(2 : Int) ^ (W - s)) * 2 ^ s := by
      have : (2 : Int) ^ W = 2 ^ (W - s) * 2 ^ s := by exact_mod_cast hsplit
      rw [this, Int.neg_mul]; rfl
    rw [e1, Int.add_mul_ediv_right _ _ (by omega)]
    have e2 : (a : Int) / 2 ^ s = ((a / 2 ^ s : Nat) : Int) := by simp
    rw [e2]
    have hle : (2 : Int) ^ (W - s) ≤ 2 ^ W := by exact_mod_cast hWs
    have hd : ((a / 2 ^ s : Nat) : Int) < 2 ^ (W - s) := by exact_mod_cast hdiv
    have hp : (0 : Int) < 2 ^ (W - s) := Int.pow_pos (by decide)
    have hD : (0 : Int) ≤ ((a / 2 ^ s : Nat) : Int) := Int.natCast_nonneg _
    have e3 : (((a / 2 ^ s : Nat) : Int) + -(2 : Int) ^ (W - s)) % 2 ^ W = ((a / 2 ^ s : Nat) : Int) + (2 ^ W - 2 ^ (W - s)) := by
      rw [← Int.add_emod_right, Int.emod_eq_of_lt]
      all_goals generalize ((a / 2 ^ s : Nat) : Int) = D at *
      all_goals omega
    rw [e3]
    have e4 : ((a / 2 ^ s : Nat) : Int) + (2 ^ W - 2 ^ (W - s)) = ((2 ^ (W - s) * (2 ^ s - 1) + a / 2 ^ s : Nat) : Int) := by
      have h1 : 2 ^ (W - s) * (2 ^ s - 1) = 2 ^ W - 2 ^ (W - s) := by rw [Nat.mul_sub, ← hsplit, Nat.mul_one]
      rw [h1, Int.natCast_add, Int.ofNat_sub hWs]
      simp only [Int.natCast_pow]
      generalize ((a / 2 ^ s : Nat) : Int) = D at *
      have : ((2 : Nat) : Int) = 2 := rfl
      rw [this]
      omega
    rw [e4]
    congr 1
    rw [Nat.two_pow_add_eq_or_of_lt hdiv]
    apply Nat.eq_of_testBit_eq
    intro i
    rw [gather_testBit, Nat.testBit_or, Nat.testBit_two_pow_mul, Nat.testBit_two_pow_sub_one, ← Nat.shiftRight_eq_div_pow, Nat.testBit_shiftRight]
    by_cases hi : s + i < W
    · have h1 : (0 : Int) ≤ (i : Int) - -(s : Int) ∧ (i : Int) - -(s : Int) < W := by omega
      have h2 : ((i : Int) - -(s : Int)).toNat = s + i := by omega
      have hi' : i < W := by omega
      have hn : ¬ W - s ≤ i := by omega
      simp only [movedF, if_pos h1, h2, hi', hn]; simp
    · have h1 : ¬ ((0 : Int) ≤ (i : Int) - -(s : Int) ∧ (i : Int) - -(s : Int) < W) := by omega
      have hn : W - s ≤ i := by omega
      simp only [movedF, if_neg h1, lt_pow ha (by omega : W ≤ s + i), hn, h]
      by_cases hi' : i < W
      · have : i - (W - s) < s := by omega
        simp [hi', this]
      · have : ¬ i - (W - s) < s := by omega
        simp [hi', this]
  · rw [if_neg h, htop]
    simp only [h, decide_false]
    rw [gather_shr a s W ha]
    have e2 : (a : Int) / 2 ^ s = ((a / 2 ^ s : Nat) : Int) := by simp
    rw [e2, Int.emod_eq_of_lt (Int.natCast_nonneg _)]
    exact_mod_cast Nat.lt_of_le_of_lt (Nat.div_le_self _ _) ha

end Go.Proofs.Ytkegoiibhleflaa.ref
