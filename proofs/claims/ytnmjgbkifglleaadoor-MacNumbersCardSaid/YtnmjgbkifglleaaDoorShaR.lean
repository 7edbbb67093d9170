/-
  The document's constants: roots of primes, as mathematics.
-/
import Derived.Test.YtnmjgbkifglleaaDoorShaM
namespace Go.Proofs.YtnmjgbkifglleaaDoor.sha

/-- Has n a divisor from k on, whose square is not above n? -/
def divides : Nat → Nat → Nat → Bool
  | 0, _, _ => false
  | f + 1, k, n => if k * k ≤ n then (if n % k = 0 then true else divides f (k + 1) n) else false
def prime (n : Nat) : Bool := !divides n 2 n && decide (1 < n)
def rootAt (p power : Nat) : Nat → Nat → Nat
  | 0, x => x
  | k + 1, x => rootAt p power k (if (x ||| 2 ^ k) ^ power ≤ p * 2 ^ (32 * power) then x ||| 2 ^ k else x)
def root (p power : Nat) : Nat := rootAt p power 37 0 % 4294967296
def roots : Nat → Nat → Nat → Nat → List Nat → List Nat
  | 0, _, _, _, out => out
  | f + 1, n, power, p, out => if out.length < n then roots f n power (p + 1) (if prime p then out ++ [root p power] else out) else out
theorem roots8 : roots 20 8 2 2 [] = start.list := by decide +kernel
theorem roots64 : roots 320 64 3 2 [] = consts := by decide +kernel
end Go.Proofs.YtnmjgbkifglleaaDoor.sha
