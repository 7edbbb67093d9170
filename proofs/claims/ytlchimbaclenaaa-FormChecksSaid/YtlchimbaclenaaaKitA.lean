/-
  Contracts of the kit's functions on lists of bytes, read alone.
-/
import Derived.Test.YtlchimbaclenaaaProg
import Derived.Test.YtlchimbaclenaaaMem
import Derived.BigQuiet
import Derived.Deep.QuietTactic
import Derived.IntWalk
namespace Go.Proofs.Ytlchimbaclenaaa.kit
open Go.RowKit Go.Proofs.Ytlchimbaclenaaa.mem
set_option linter.unusedVariables false

theorem pick_any (x n : Int) (w : World) (n1 : 1 ≤ n) (n2 : n ≤ 9223372036854775807) (x1 : -9223372036854775808 ≤ x) (x2 : x ≤ 9223372036854775807) :
    Calls Try.prog 12 #[.int .i64 x, .int .i64 n] w fun e w' => e = .returned (.int .i64 (x % n)) ∧ w = w' := by
  have h0 : ¬ n = 0 := by omega
  have h1 : ¬ n < 1 := by omega
  have ht : x.tmod n = if 0 ≤ x ∨ x % n = 0 then x % n else x % n - n := by
    rw [Int.tmod_eq_emod]
    by_cases hc : 0 ≤ x ∨ n ∣ x
    · rw [if_pos hc, if_pos (by rcases hc with h | h; exact Or.inl h; exact Or.inr (Int.emod_eq_zero_of_dvd h))]; simp
    · rw [if_neg hc, if_neg (by rintro (h | h); exact hc (Or.inl h); exact hc (Or.inr (Int.dvd_of_emod_eq_zero h)))]
      have : (n.natAbs : Int) = n := by omega
      omega
  have hm0 := Int.emod_nonneg x h0
  have hm1 := Int.emod_lt_of_pos x (show 0 < n by omega)
  by_cases hc : 0 ≤ x ∨ x % n = 0
  · rw [if_pos hc] at ht
    have ht0 : ¬ x.tmod n < 0 := by omega
    have H := Lib.hid ht
    clear ht hc
    go_enter Try.func12, Try.ntmps12
    go_wp2
    go_ret
    exact ⟨by simp [H.out], rfl⟩
  · rw [if_neg hc] at ht
    have ht0 : x.tmod n < 0 := by omega
    have ht1 : -9223372036854775808 ≤ x.tmod n + n := by omega
    have ht2 : x.tmod n + n ≤ 9223372036854775807 := by omega
    have H := Lib.hid ht
    clear ht hc
    go_enter Try.func12, Try.ntmps12
    go_wp2
    go_ret
    exact ⟨by simp [H.out], rfl⟩

end Go.Proofs.Ytlchimbaclenaaa.kit
