/-
  The document's sha: turned, moved, prime.
-/
import Derived.Test.YtnmjgbkifglleaaDoorShaG
import Derived.Test.YtnmjgbkifglleaaDoorShaR
namespace Go.Proofs.YtnmjgbkifglleaaDoor.sha
open Go.RowKit Go.Proofs.YtnmjgbkifglleaaDoor.mem
set_option linter.unusedVariables false

theorem rturn_val (x n s : Nat) (hx : x < 4294967296) (hs : s + n = 32) : bits BinOp.and IntKind.u64 (bits BinOp.or IntKind.u64 ((x : Int) / 2 ^ n) (IntKind.u64.wrap ((x : Int) * 2 ^ s))) 4294967295 = ((rotr x n : Nat) : Int) := by
  have hp : 2 ^ s ≤ 2 ^ 32 := Nat.pow_le_pow_right (by decide) (by omega)
  have hb : x * 2 ^ s < 18446744073709551616 := Nat.lt_of_le_of_lt (Nat.mul_le_mul_left x hp) (by omega)
  have e1 : (x : Int) / 2 ^ n = ((x / 2 ^ n : Nat) : Int) := by simp
  have e2 : (x : Int) * 2 ^ s = ((x * 2 ^ s : Nat) : Int) := by simp
  have hd : x / 2 ^ n < 4294967296 := Nat.lt_of_le_of_lt (Nat.div_le_self _ _) hx
  rw [e1, e2, IntWalk.u64_in _ ⟨by omega, by omega⟩, u64_or_nat _ _ (by omega) hb]
  have ho : x / 2 ^ n ||| x * 2 ^ s < 18446744073709551616 := Nat.or_lt_two_pow (n := 64) (by omega) hb
  rw [show (4294967295 : Int) = ((4294967295 : Nat) : Int) from rfl, u64_and_nat _ _ ho (by omega), show (4294967295 : Nat) = 2 ^ 32 - 1 from rfl, Nat.and_two_pow_sub_one_eq_mod, Nat.or_mod_two_pow, Nat.mod_eq_of_lt hd, Nat.or_comm]
  unfold rotr
  rw [show 32 - n = s by omega]
theorem rturned_any (x n s : Nat) (w : World) (hx : x < 4294967296) (hs : s + n = 32) (h0 : 0 < n) (h1 : n < 32) :
    Calls Tryd.prog 29 #[.int .u64 x, .int .u64 n] w fun e w' => e = .returned (.int .u64 (rotr x n : Nat)) ∧ w = w' := by
  have h32 : (32 : Int) - (n : Int) = (s : Int) := by omega
  go_enter Tryd.func29, Tryd.ntmps29
  go_wp2
  go_ret
  exact ⟨ret_int (rturn_val x n s hx hs), rfl⟩
theorem rmoved_any (x n : Nat) (w : World) (hx : x < 4294967296) (h1 : n < 64) :
    Calls Tryd.prog 41 #[.int .u64 x, .int .u64 n] w fun e w' => e = .returned (.int .u64 (x / 2 ^ n : Nat)) ∧ w = w' := by
  go_enter Tryd.func41, Tryd.ntmps41
  go_wp2
  go_ret
  exact ⟨ret_int (by simp), rfl⟩

theorem divides_yes (f k n : Nat) (h : k * k ≤ n) (hd : n % k = 0) : divides (f + 1) k n = true := by unfold divides; rw [if_pos h, if_pos hd]
theorem divides_next (f k n : Nat) (h : k * k ≤ n) (hd : ¬ n % k = 0) : divides (f + 1) k n = divides f (k + 1) n := by conv => lhs; unfold divides; rw [if_pos h, if_neg hd]
theorem divides_no (f k n : Nat) (h : ¬ k * k ≤ n) : divides f k n = false := by
  cases f with
  | zero => rfl
  | succ f => unfold divides; rw [if_neg h]

set_option maxRecDepth 100000 in
theorem rprime_any (n : Nat) (w : World) (hn : n ≤ 1000) : Calls Tryd.prog 39 #[.int .u64 n] w fun e w' => e = .returned (.bool (prime n)) ∧ w = w' := by
  go_enter Tryd.func39, Tryd.ntmps39
  go_wp2
  go_loop [3] (fun v => ∃ k : Nat, 2 ≤ k ∧ k ≤ n + 2 ∧ v = .int .u64 k ∧ divides n 2 n = divides (n + 2 - k) k n) (fun v => n + 2 - (intOf v).toNat)
  case atStart => exact ⟨2, Nat.le_refl _, by omega, rfl, by simp⟩
  case round =>
    obtain ⟨k, hk, hkn, rfl, hd⟩ := hrel
    have HD := Lib.hid hd
    clear hd
    obtain ⟨q, hq⟩ : ∃ q, k * k = q := ⟨_, rfl⟩
    have hkk : k ≤ q := by rw [← hq]; exact Nat.le_mul_of_pos_left k (by omega)
    have hqi : (k : Int) * (k : Int) = (q : Int) := by rw [← hq]; simp
    have hqb : q ≤ 1004004 := by rw [← hq]; exact Nat.mul_le_mul (show k ≤ 1002 by omega) (show k ≤ 1002 by omega)
    by_cases hle : q ≤ n
    · have hlei : (q : Int) ≤ (n : Int) := by omega
      have hf : n + 2 - k = (n + 2 - (k + 1)) + 1 := by omega
      have hmi : (n : Int) % (k : Int) = ((n % k : Nat) : Int) := by simp
      by_cases hm : n % k = 0
      · have hp : prime n = false := by
          unfold prime
          rw [HD.out, hf, divides_yes _ _ _ (by rw [hq]; exact hle) hm]
          rfl
        have HP := Lib.hid hp
        have hm2 : (n : Int) % (k : Int) = 0 := by rw [hmi, hm]; rfl
        have hk0 : ((k : Int) == 0) = false := by simp; omega
        clear hp hm hmi hf
        go_wp2
        go_ret
        rw [HP.out]
        exact ⟨rfl, rfl⟩
      · have HN : Hid (divides n 2 n = divides (n + 2 - (k + 1)) (k + 1) n) := Lib.hid (by rw [HD.out, hf, divides_next _ _ _ (by rw [hq]; exact hle) hm])
        have hm2 : ¬ (n : Int) % (k : Int) = 0 := by rw [hmi]; omega
        have hk0 : ((k : Int) == 0) = false := by simp; omega
        clear hm hmi hf
        go_wp2
        go_round
        case rel => exact ⟨k + 1, by omega, by omega, by go_num, HN.out⟩
        case measure => simp [intOf]; omega
    · have hlei : ¬ (q : Int) ≤ (n : Int) := by omega
      have hp : prime n = decide (1 < n) := by
        unfold prime
        rw [HD.out, divides_no _ _ _ (by rw [hq]; exact hle)]
        simp
      have HP := Lib.hid hp
      clear hp
      go_wp2
      go_ret
      rw [HP.out]
      exact ⟨by simp; omega, rfl⟩
end Go.Proofs.YtnmjgbkifglleaaDoor.sha
