/-
  Numbers in digits of 32 bits, the lowest first: what the document's times and above compute.
-/
import Derived.Test.YtnmjgbkifglleaaDoorShaR
namespace Go.Proofs.YtnmjgbkifglleaaDoor.sha
set_option linter.unusedVariables false

def num : List Nat → Nat
  | [] => 0
  | x :: l => x + 4294967296 * num l

theorem num_append (a b : List Nat) : num (a ++ b) = num a + 4294967296 ^ a.length * num b := by
  induction a with
  | nil => simp [num]
  | cons x l ih =>
    simp only [List.cons_append, num, List.length_cons, ih, Nat.pow_succ, Nat.mul_add]
    rw [Nat.mul_comm (4294967296 ^ l.length) 4294967296, Nat.mul_assoc]
    omega

theorem num_zeros (n : Nat) : num (List.replicate n 0) = 0 := by
  induction n with
  | zero => rfl
  | succ n ih => simp [List.replicate_succ, num, ih]

theorem num_set (l : List Nat) (i v : Nat) (h : i < l.length) : num (l.set i v) + l[i] * 4294967296 ^ i = num l + v * 4294967296 ^ i := by
  induction l generalizing i with
  | nil => simp at h
  | cons x l ih =>
    cases i with
    | zero => simp [num]; omega
    | succ i =>
      have := ih i (by simpa using h)
      simp only [List.set_cons_succ, num, List.getElem_cons_succ, Nat.pow_succ]
      have e1 : l[i]'(by simpa using h) * (4294967296 ^ i * 4294967296) = 4294967296 * (l[i]'(by simpa using h) * 4294967296 ^ i) := by rw [← Nat.mul_assoc, Nat.mul_comm]
      have e2 : v * (4294967296 ^ i * 4294967296) = 4294967296 * (v * 4294967296 ^ i) := by rw [← Nat.mul_assoc, Nat.mul_comm]
      rw [e1, e2]
      omega

theorem num_take_succ (b : List Nat) (k : Nat) (h : k < b.length) : num (b.take (k + 1)) = num (b.take k) + b[k] * 4294967296 ^ k := by
  rw [List.take_succ_eq_append_getElem h, num_append]
  have : (b.take k).length = k := by simp; omega
  rw [this, Nat.mul_comm]
  simp [num]

/-- One step of the inner loop: the digit at i + k and the carry. -/
theorem step_num (o b : List Nat) (i k c x A0 S : Nat) (hk : k < b.length) (hi : i + k < o.length)
    (hx : x = o[i + k] + A0 * b[k] + c) (h : num o + c * 4294967296 ^ (i + k) = S + A0 * num (b.take k) * 4294967296 ^ i) :
    num (o.set (i + k) (x % 4294967296)) + x / 4294967296 * 4294967296 ^ (i + (k + 1)) = S + A0 * num (b.take (k + 1)) * 4294967296 ^ i := by
  have hs := num_set o (i + k) (x % 4294967296) hi
  rw [num_take_succ b k hk, show i + (k + 1) = (i + k) + 1 by omega, Nat.pow_succ]
  have e1 : x / 4294967296 * (4294967296 ^ (i + k) * 4294967296) = (4294967296 * (x / 4294967296)) * 4294967296 ^ (i + k) := by
    rw [Nat.mul_comm (4294967296 ^ (i + k)), ← Nat.mul_assoc, Nat.mul_comm (x / 4294967296)]
  have e2 : A0 * (num (b.take k) + b[k] * 4294967296 ^ k) * 4294967296 ^ i = A0 * num (b.take k) * 4294967296 ^ i + (A0 * b[k]) * 4294967296 ^ (i + k) := by
    rw [Nat.mul_add, Nat.add_mul, ← Nat.mul_assoc, Nat.mul_assoc (A0 * b[k]), ← Nat.pow_add, Nat.add_comm k i]
  have e3 : x % 4294967296 * 4294967296 ^ (i + k) + (4294967296 * (x / 4294967296)) * 4294967296 ^ (i + k) = x * 4294967296 ^ (i + k) := by
    rw [← Nat.add_mul, Nat.mod_add_div]
  have e4 : x * 4294967296 ^ (i + k) = o[i + k] * 4294967296 ^ (i + k) + (A0 * b[k]) * 4294967296 ^ (i + k) + c * 4294967296 ^ (i + k) := by
    rw [hx, Nat.add_mul, Nat.add_mul]
  rw [e1, e2]
  omega

theorem step_small (o a b c : Nat) (ho : o < 4294967296) (ha : a < 4294967296) (hb : b < 4294967296) (hc : c < 4294967296) : o + a * b + c < 18446744073709551616 := by
  have : a * b ≤ 4294967295 * 4294967295 := Nat.mul_le_mul (by omega) (by omega)
  omega

theorem num_lt (l : List Nat) (h : ∀ x ∈ l, x < 4294967296) : num l < 4294967296 ^ l.length := by
  induction l with
  | nil => simp [num]
  | cons x l ih =>
    have h1 := ih (fun y hy => h y (by simp [hy]))
    have h2 := h x (by simp)
    simp only [num, List.length_cons, Nat.pow_succ]
    generalize 4294967296 ^ l.length = P at *
    omega

/-- Numbers whose digits are alike are alike. -/
theorem num_alike (a b : List Nat) (hh : ∀ j, a.getD j 0 = b.getD j 0) : num a = num b := by
  induction a generalizing b with
  | nil =>
    induction b with
    | nil => rfl
    | cons z m ih =>
      have h0 := hh 0
      simp at h0
      have h1 := ih (fun j => by have := hh (j + 1); simpa using this)
      simp only [num] at h1 ⊢
      omega
  | cons u l ih =>
    cases b with
    | nil =>
      have h0 := hh 0
      simp at h0
      have := ih [] (fun j => by have := hh (j + 1); simpa using this)
      simp [num, h0, this]
    | cons z m =>
      have h0 := hh 0
      simp at h0
      rw [num, num, h0, ih m (fun j => by have := hh (j + 1); simpa using this)]

/-- Two numbers whose digits from i + 1 on are alike are ordered as their digits at i. -/
theorem num_above (a b : List Nat) (i : Nat) (ha : ∀ x ∈ a, x < 4294967296) (hb : ∀ x ∈ b, x < 4294967296)
    (hs : ∀ j, i < j → a.getD j 0 = b.getD j 0) (hl : a.getD i 0 < b.getD i 0) : num a < num b := by
  induction i generalizing a b with
  | zero =>
    cases b with
    | nil => simp at hl
    | cons y m =>
      have hy := hb y (by simp)
      cases a with
      | nil => simp at hl; simp [num]; omega
      | cons x l =>
        simp at hl
        have : num l = num m := num_alike l m (fun j => by have := hs (j + 1) (by omega); simpa using this)
        simp only [num]
        omega
  | succ i ih =>
    cases b with
    | nil => simp at hl
    | cons y m =>
      have hy := hb y (by simp)
      cases a with
      | nil =>
        have := ih [] m (by simp) (fun x hx => hb x (by simp [hx])) (fun j hj => by have := hs (j + 1) (by omega); simpa using this) (by simpa using hl)
        simp [num] at this ⊢
        omega
      | cons x l =>
        have hx := ha x (by simp)
        have := ih l m (fun x hx => ha x (by simp [hx])) (fun x hx => hb x (by simp [hx])) (fun j hj => by have := hs (j + 1) (by omega); simpa using this) (by simpa using hl)
        simp only [num]
        omega
end Go.Proofs.YtnmjgbkifglleaaDoor.sha
