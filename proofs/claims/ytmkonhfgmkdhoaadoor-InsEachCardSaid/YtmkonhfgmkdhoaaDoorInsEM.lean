/-
  InsEach, as mathematics: how many of the eight bytes that it tries are an instruction.
-/
import Derived.Test.YtmkonhfgmkdhoaaDoorInsM
namespace Go.Proofs.YtmkonhfgmkdhoaaDoor.ins
set_option linter.unusedVariables false

/-- The bytes that InsEach tries. -/
def ech (a c k : Nat) : List UInt8 := [UInt8.ofNat a, UInt8.ofNat c, if k % 2 = 1 then 255 else 0, if k % 2 = 1 then 254 else 0, if k / 2 % 2 = 1 then 128 else 0, 0, 0, if k / 2 % 2 = 1 then 1 else 0]
def e1 (a c k : Nat) : Nat := if one (ech a c k) then 1 else 0
/-- How many are seen: of the first k, of the first c with all four, of the first a with all of these. -/
def ek (a c : Nat) : Nat → Nat
  | 0 => 0
  | k + 1 => ek a c k + e1 a c k
def ec (a : Nat) : Nat → Nat
  | 0 => 0
  | c + 1 => ec a c + ek a c 4
def ea : Nat → Nat
  | 0 => 0
  | a + 1 => ea a + ec a 256
theorem e1_le (a c k : Nat) : e1 a c k ≤ 1 := by unfold e1; split <;> omega
theorem ek_le (a c : Nat) : ∀ k, ek a c k ≤ k
  | 0 => Nat.le_refl _
  | k + 1 => by have h1 := ek_le a c k; have h2 := e1_le a c k; simp only [ek]; omega
theorem ec_le (a : Nat) : ∀ c, ec a c ≤ 4 * c
  | 0 => Nat.le_refl _
  | c + 1 => by have h1 := ec_le a c; have h2 := ek_le a c 4; simp only [ec]; omega
theorem ea_le : ∀ a, ea a ≤ 1024 * a
  | 0 => Nat.le_refl _
  | a + 1 => by have h1 := ea_le a; have h2 := ec_le a 256; simp only [ea]; omega
/-- Of them, those of the first two k alone. -/
def lo (a : Nat) : Nat → Nat
  | 0 => 0
  | c + 1 => lo a c + (e1 a c 0 + e1 a c 1)
theorem lo_le (a : Nat) : ∀ c, lo a c ≤ ec a c
  | 0 => Nat.le_refl _
  | c + 1 => by
    have h := lo_le a c
    have e : ek a c 4 = 0 + e1 a c 0 + e1 a c 1 + e1 a c 2 + e1 a c 3 := rfl
    simp only [lo, ec]
    omega
/-- The sum of n of them from a on. -/
def los (a : Nat) : Nat → Nat
  | 0 => 0
  | n + 1 => los a n + lo (a + n) 256
theorem los_le (a : Nat) : ∀ n, ea a + los a n ≤ ea (a + n)
  | 0 => Nat.le_refl _
  | n + 1 => by
    have h := los_le a n
    have h2 := lo_le (a + n) 256
    have e : ea (a + (n + 1)) = ea (a + n) + ec (a + n) 256 := rfl
    simp only [los]
    omega
theorem ea_mono : ∀ n a, ea a ≤ ea (a + n)
  | 0, a => Nat.le_refl _
  | n + 1, a => by
    have h := ea_mono n a
    have e : ea (a + (n + 1)) = ea (a + n) + ec (a + n) 256 := rfl
    omega
set_option maxRecDepth 100000 in
theorem los_wide : 2501 ≤ los 17 11 := by decide +kernel
set_option maxRecDepth 100000 in
theorem los_narrow : 2501 ≤ los 81 11 := by decide +kernel
theorem ea_all : 5000 < ea 256 := by
  have h1 := los_le 17 11
  have h2 := los_le 81 11
  have h3 := ea_mono 53 28
  have h4 := ea_mono 164 92
  have h5 := los_wide
  have h6 := los_narrow
  simp only [Nat.reduceAdd] at h1 h2 h3 h4
  omega
end Go.Proofs.YtmkonhfgmkdhoaaDoor.ins
