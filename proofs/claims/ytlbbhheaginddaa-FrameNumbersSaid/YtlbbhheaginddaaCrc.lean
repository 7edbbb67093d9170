/-
  The sum of bytes (CRC-32C) as mathematics: what the sum's word becomes is linear, and loses nothing.
-/
import Derived.WalkKit
namespace Go.Proofs.Ytlbbhheaginddaa.crc
set_option linter.unusedVariables false

/-- One shift of the sum's word. -/
def s1 (w : Nat) : Nat := w / 2 ^^^ (if w % 2 = 1 then 2197175160 else 0)
def sN : Nat → Nat → Nat
  | 0, w => w
  | n + 1, w => sN n (s1 w)

theorem xor_div2 (a b : Nat) : (a ^^^ b) / 2 = a / 2 ^^^ b / 2 := by
  have h := Nat.shiftRight_xor_distrib (a := a) (b := b) (i := 1)
  simpa [Nat.shiftRight_eq_div_pow] using h
theorem xor_mod2 (a b : Nat) : (a ^^^ b) % 2 = (a % 2 + b % 2) % 2 := by
  have h := Nat.testBit_xor a b 0
  simp only [Nat.testBit_zero] at h
  rcases Nat.mod_two_eq_zero_or_one a with ha | ha <;> rcases Nat.mod_two_eq_zero_or_one b with hb | hb <;> rcases Nat.mod_two_eq_zero_or_one (a ^^^ b) with hc | hc <;> simp_all

theorem xor_rc (a b c : Nat) : a ^^^ b ^^^ c = a ^^^ c ^^^ b := by rw [Nat.xor_assoc, Nat.xor_comm b c, ← Nat.xor_assoc]
theorem s1_zero : s1 0 = 0 := by decide
theorem s1_xor (a b : Nat) : s1 (a ^^^ b) = s1 a ^^^ s1 b := by
  unfold s1
  rw [xor_div2, xor_mod2]
  rcases Nat.mod_two_eq_zero_or_one a with ha | ha <;> rcases Nat.mod_two_eq_zero_or_one b with hb | hb
  · simp [ha, hb]
  · simp [ha, hb, Nat.xor_assoc]
  · simp only [ha, hb]
    simp
    rw [xor_rc]
  · simp only [ha, hb]
    simp
    rw [← Nat.xor_assoc, xor_rc (a / 2) 2197175160, Nat.xor_assoc, Nat.xor_self, Nat.xor_zero]
theorem s1_double (a : Nat) : s1 (2 * a) = a := by
  unfold s1
  rw [show 2 * a / 2 = a by omega, show 2 * a % 2 = 0 by omega]
  simp
theorem s1_lt (a : Nat) (h : a < 4294967296) : s1 a < 4294967296 := by
  unfold s1
  refine Nat.xor_lt_two_pow (n := 32) (by omega) ?_
  split <;> omega
theorem s1_ne (a : Nat) (h : a < 4294967296) (h0 : a ≠ 0) : s1 a ≠ 0 := by
  unfold s1
  rcases Nat.mod_two_eq_zero_or_one a with ha | ha
  · rw [if_neg (by omega), Nat.xor_zero]; omega
  · rw [if_pos ha]
    intro hh
    have e : a / 2 = 2197175160 := by
      have h2 := congrArg (· ^^^ 2197175160) hh
      simp only [Nat.xor_assoc, Nat.xor_self, Nat.xor_zero, Nat.zero_xor] at h2
      exact h2
    omega

theorem sN_zero : ∀ n, sN n 0 = 0
  | 0 => rfl
  | n + 1 => by rw [sN, s1_zero]; exact sN_zero n
theorem sN_xor : ∀ n a b, sN n (a ^^^ b) = sN n a ^^^ sN n b
  | 0, _, _ => rfl
  | n + 1, a, b => by rw [sN, sN, sN, s1_xor]; exact sN_xor n _ _
theorem sN_add : ∀ m n a, sN (m + n) a = sN n (sN m a)
  | 0, n, a => by rw [Nat.zero_add]; rfl
  | m + 1, n, a => by rw [show m + 1 + n = (m + n) + 1 by omega, sN, sN]; exact sN_add m n _
theorem sN_pow : ∀ n a, sN n (2 ^ n * a) = a
  | 0, a => by simp [sN]
  | n + 1, a => by
    rw [sN, show 2 ^ (n + 1) * a = 2 * (2 ^ n * a) by rw [Nat.pow_succ]; ac_rfl, s1_double]
    exact sN_pow n a
theorem sN_lt : ∀ n a, a < 4294967296 → sN n a < 4294967296
  | 0, a, h => h
  | n + 1, a, h => sN_lt n _ (s1_lt a h)
theorem sN_ne : ∀ n a, a < 4294967296 → a ≠ 0 → sN n a ≠ 0
  | 0, a, _, h => h
  | n + 1, a, h, h0 => sN_ne n _ (s1_lt a h) (s1_ne a h h0)

/-- What the word becomes by one more byte. -/
def upd (w : Nat) (b : UInt8) : Nat := sN 8 (w ^^^ b.toNat)
def fold (w : Nat) (l : List UInt8) : Nat := l.foldl upd w
/-- All bits turned. -/
def not32 (w : Nat) : Nat := 4294967295 - w
/-- The sum. -/
def crc (l : List UInt8) : Nat := not32 (fold 4294967295 l)

theorem fold_append (w : Nat) (a b : List UInt8) : fold w (a ++ b) = fold (fold w a) b := by unfold fold; rw [List.foldl_append]
theorem fold_snoc (w : Nat) (l : List UInt8) (b : UInt8) : fold w (l ++ [b]) = upd (fold w l) b := by rw [fold_append]; rfl
theorem upd_lt (w : Nat) (b : UInt8) (h : w < 4294967296) : upd w b < 4294967296 :=
  sN_lt 8 _ (Nat.xor_lt_two_pow (n := 32) h (by have := b.toNat_lt; omega))
theorem fold_lt : ∀ (l : List UInt8) (w : Nat), w < 4294967296 → fold w l < 4294967296
  | [], w, h => h
  | b :: l, w, h => fold_lt l _ (upd_lt w b h)
theorem crc_lt (l : List UInt8) : crc l < 4294967296 := by unfold crc not32; omega

/-- The bytes as one number, the first one lowest. -/
def low : List UInt8 → Nat
  | [] => 0
  | b :: l => b.toNat + 256 * low l

theorem add_xor8 (b y : Nat) (h : b < 256) : b + 256 * y = b ^^^ (256 * y) := by
  apply Nat.eq_of_testBit_eq
  intro i
  rw [Nat.testBit_xor]
  rw [show b + 256 * y = 2 ^ 8 * y + b by omega, Nat.testBit_two_pow_mul_add y (by omega : b < 2 ^ 8)]
  rw [show 256 * y = 2 ^ 8 * y by omega, Nat.testBit_two_pow_mul]
  by_cases hi : i < 8
  · simp [hi, show ¬ 8 ≤ i by omega]
  · have : b.testBit i = false := Nat.testBit_lt_two_pow (Nat.lt_of_lt_of_le (by omega : b < 2 ^ 8) (Nat.pow_le_pow_right (by decide) (by omega)))
    simp [hi, this]; omega

theorem fold_low : ∀ (l : List UInt8) (w : Nat), fold w l = sN (8 * l.length) (w ^^^ low l)
  | [], w => by simp [fold, low, sN]
  | b :: l, w => by
    show fold (upd w b) l = _
    rw [fold_low l, low, add_xor8 _ _ b.toNat_lt, ← Nat.xor_assoc, List.length_cons, show 8 * (l.length + 1) = 8 + 8 * l.length by omega, sN_add, sN_xor 8 (w ^^^ b.toNat), show 256 * low l = 2 ^ 8 * low l by omega, sN_pow]
    rfl

theorem low_append : ∀ (a b : List UInt8), low (a ++ b) = low a + 2 ^ (8 * a.length) * low b
  | [], b => by simp [low]
  | x :: a, b => by
    rw [List.cons_append, low, low, low_append a b, List.length_cons, show 8 * (a.length + 1) = 8 * a.length + 8 by omega, Nat.pow_add]
    simp only [Nat.mul_add, Nat.add_assoc]
    congr 2
    rw [← Nat.mul_assoc]
    congr 1
    rw [Nat.mul_comm]
theorem low_lt : ∀ (a : List UInt8), low a < 2 ^ (8 * a.length)
  | [] => by simp [low]
  | x :: a => by
    have h := low_lt a
    have hx := x.toNat_lt
    rw [low, List.length_cons, show 8 * (a.length + 1) = 8 * a.length + 8 by omega, Nat.pow_add]
    omega

/-- A bit turned in a list. -/
def turn (l : List UInt8) (p : Nat) : List UInt8 := l.set (p / 8) (UInt8.ofNat ((l.getD (p / 8) 0).toNat ^^^ 2 ^ (p % 8)))
theorem turn_length (l : List UInt8) (p : Nat) : (turn l p).length = l.length := by simp [turn]

theorem add_xor_pow (n b y : Nat) (h : b < 2 ^ n) : b + 2 ^ n * y = b ^^^ (2 ^ n * y) := by
  apply Nat.eq_of_testBit_eq
  intro i
  rw [Nat.testBit_xor]
  rw [show b + 2 ^ n * y = 2 ^ n * y + b by omega, Nat.testBit_two_pow_mul_add y h, Nat.testBit_two_pow_mul]
  by_cases hi : i < n
  · simp [hi, show ¬ n ≤ i by omega]
  · have : b.testBit i = false := Nat.testBit_lt_two_pow (Nat.lt_of_lt_of_le h (Nat.pow_le_pow_right (by decide) (by omega)))
    simp [hi, this]; omega

theorem low_turn : ∀ (l : List UInt8) (p : Nat), p < 8 * l.length → low (turn l p) = low l ^^^ 2 ^ p
  | [], p, h => by simp at h
  | b :: l, p, h => by
    by_cases hp : p < 8
    · have h0 : p / 8 = 0 := by omega
      have h1 : p % 8 = p := by omega
      have hx : b.toNat ^^^ 2 ^ p < 256 := Nat.xor_lt_two_pow (n := 8) b.toNat_lt (Nat.pow_lt_pow_right (by decide) hp)
      unfold turn
      rw [h0, h1]
      simp only [List.set_cons_zero, low]
      rw [show (List.getD (b :: l) 0 0) = b from rfl, UInt8.toNat_ofNat', Nat.mod_eq_of_lt (by omega), add_xor8 _ _ hx, add_xor8 _ _ b.toNat_lt, xor_rc]
    · obtain ⟨q, rfl⟩ : ∃ q, p = q + 8 := ⟨p - 8, by omega⟩
      have h0 : (q + 8) / 8 = q / 8 + 1 := by omega
      have h1 : (q + 8) % 8 = q % 8 := by omega
      have ih := low_turn l q (by simp at h; omega)
      unfold turn at ih ⊢
      rw [h0, h1]
      simp only [List.set_cons_succ, low, List.getD_cons_succ]
      rw [ih, add_xor8 _ _ b.toNat_lt, add_xor8 _ _ b.toNat_lt, Nat.xor_assoc]
      congr 1
      rw [show 256 * (low l ^^^ 2 ^ q) = 2 ^ 8 * (low l ^^^ 2 ^ q) by omega, Nat.mul_comm, ← Nat.shiftLeft_eq, Nat.shiftLeft_xor_distrib, Nat.shiftLeft_eq, Nat.shiftLeft_eq, Nat.pow_add, Nat.mul_comm]

/-- The bits of t below k, turned from place p on. -/
def turns (l : List UInt8) (p t : Nat) : Nat → List UInt8
  | 0 => l
  | k + 1 => if t.testBit k then turn (turns l p t k) (p + k) else turns l p t k
theorem turns_length (l : List UInt8) (p t : Nat) : ∀ k, (turns l p t k).length = l.length
  | 0 => rfl
  | k + 1 => by unfold turns; split <;> simp [turn_length, turns_length l p t k]
theorem mod_succ_bit (t k : Nat) : t % 2 ^ (k + 1) = t % 2 ^ k ^^^ (if t.testBit k then 2 ^ k else 0) := by
  apply Nat.eq_of_testBit_eq
  intro i
  rw [Nat.testBit_xor, Nat.testBit_mod_two_pow, Nat.testBit_mod_two_pow]
  split
  · rename_i h
    rw [Nat.testBit_two_pow]
    rcases Nat.lt_trichotomy i k with hi | hi | hi
    · simp [show i < k + 1 by omega, hi, show k ≠ i by omega]
    · subst hi; simp [h]
    · simp [show ¬ i < k + 1 by omega, show ¬ i < k by omega, show k ≠ i by omega]
  · rename_i h
    rw [Nat.zero_testBit]
    rcases Nat.lt_trichotomy i k with hi | hi | hi
    · simp [show i < k + 1 by omega, hi]
    · subst hi; simp [h]
    · simp [show ¬ i < k + 1 by omega, show ¬ i < k by omega]
theorem low_turns (l : List UInt8) (p t : Nat) : ∀ k, p + k ≤ 8 * l.length → low (turns l p t k) = low l ^^^ 2 ^ p * (t % 2 ^ k)
  | 0, _ => by simp [turns, Nat.mod_one]
  | k + 1, h => by
    have ih := low_turns l p t k (by omega)
    have e : 2 ^ p * (t % 2 ^ (k + 1)) = 2 ^ p * (t % 2 ^ k) ^^^ 2 ^ p * (if t.testBit k then 2 ^ k else 0) := by
      rw [mod_succ_bit, Nat.mul_comm, ← Nat.shiftLeft_eq, Nat.shiftLeft_xor_distrib, Nat.shiftLeft_eq, Nat.shiftLeft_eq, Nat.mul_comm, Nat.mul_comm (2 ^ p)]
      split <;> simp [Nat.mul_comm]
    rw [e, ← Nat.xor_assoc]
    unfold turns
    split
    · rename_i hb
      rw [low_turn _ _ (by rw [turns_length]; omega), ih, Nat.pow_add]
    · rw [ih, Nat.mul_zero, Nat.xor_zero]

theorem not32_inj {a b : Nat} (ha : a < 4294967296) (hb : b < 4294967296) (h : not32 a = not32 b) : a = b := by unfold not32 at h; omega

/-- Bytes in which some of 32 bits, one behind the other, are turned have another sum. -/
theorem crc_burst (h l : List UInt8) (p t : Nat) (ht : t < 4294967296) (h0 : t ≠ 0) (hp : p + 32 ≤ 8 * l.length) : crc (h ++ turns l p t 32) ≠ crc (h ++ l) := by
  intro e
  have e1 := not32_inj (fold_lt _ _ (by decide)) (fold_lt _ _ (by decide)) e
  rw [fold_append, fold_append, fold_low (turns l p t 32), fold_low l, turns_length, low_turns l p t 32 hp, Nat.mod_eq_of_lt (by omega : t < 2 ^ 32), ← Nat.xor_assoc, sN_xor] at e1
  have e2 : sN (8 * l.length) (2 ^ p * t) = 0 := by
    have := congrArg (sN (8 * l.length) (fold 4294967295 h ^^^ low l) ^^^ ·) e1
    simp only [← Nat.xor_assoc, Nat.xor_self, Nat.zero_xor] at this
    exact this
  rw [show 8 * l.length = p + (8 * l.length - p) by omega, sN_add, sN_pow] at e2
  exact sN_ne _ _ ht h0 e2
end Go.Proofs.Ytlbbhheaginddaa.crc
