/-
  The document's ch and maj; a message whole; blocks one behind the other.
-/
import Derived.Test.YtnmjgbkifglleaaDoorShaM
namespace Go.Proofs.YtnmjgbkifglleaaDoor.sha
set_option linter.unusedVariables false

theorem ch_or (e f g : Nat) (he : e < 4294967296) : (e &&& f) ||| ((4294967295 ^^^ e) &&& g) = ch e f g := by
  unfold ch
  apply Nat.eq_of_testBit_eq
  intro i
  have h : (4294967295 : Nat).testBit i = decide (i < 32) := Nat.testBit_two_pow_sub_one 32 i
  simp only [Nat.testBit_or, Nat.testBit_xor, Nat.testBit_and, h]
  by_cases hi : i < 32
  · simp only [hi, decide_true]
    cases e.testBit i <;> simp
  · have : e.testBit i = false := Nat.testBit_lt_two_pow (Nat.lt_of_lt_of_le he (show 2 ^ 32 ≤ 2 ^ i from Nat.pow_le_pow_right (by decide) (by omega)))
    simp [this, hi]
theorem maj_or (a b c : Nat) : (a &&& b) ||| (a &&& c) ||| (b &&& c) = maj a b c := by
  unfold maj
  apply Nat.eq_of_testBit_eq
  intro i
  simp only [Nat.testBit_or, Nat.testBit_xor, Nat.testBit_and]
  cases a.testBit i <;> cases b.testBit i <;> cases c.testBit i <;> rfl
theorem or_lt {a b : Nat} (ha : a < 4294967296) (hb : b < 4294967296) : a ||| b < 4294967296 := Nat.or_lt_two_pow (n := 32) ha hb

/-- A message with what is put behind. -/
def msg (l : List UInt8) : List UInt8 := l ++ 128 :: (List.replicate (padz (l.length % 64)) 0 ++ be8 (8 * l.length))
theorem msg_eq (l : List UInt8) : msg l = l.take (l.length - l.length % 64) ++ pad (l.drop (l.length - l.length % 64)) l.length := by
  unfold msg pad
  have h : (l.drop (l.length - l.length % 64)).length = l.length % 64 := by
    rw [List.length_drop]
    have := Nat.mod_le l.length 64
    omega
  rw [h, ← List.append_assoc, List.take_append_drop]
theorem msg_length (l : List UInt8) : (msg l).length = l.length + 1 + padz (l.length % 64) + 8 := by simp [msg, be8]; omega
theorem msg_mod (l : List UInt8) : (msg l).length % 64 = 0 := by
  rw [msg_length]
  unfold padz
  split <;> omega

theorem blocks_left (s : St) (a b : List UInt8) : ∀ k, 64 * k ≤ a.length → blocks s (a ++ b) k = blocks s a k
  | 0, _ => rfl
  | k + 1, h => by
    rw [blocks, blocks, blocks_left s a b k (by omega), List.drop_append_of_le_length (by omega), List.take_append_of_le_length (by rw [List.length_drop]; omega)]
theorem blocks_right (s : St) (a b : List UInt8) (m : Nat) (h : a.length = 64 * m) : ∀ n, blocks s (a ++ b) (m + n) = blocks (blocks s a m) b n
  | 0 => blocks_left s a b m (by omega)
  | n + 1 => by
    rw [← Nat.add_assoc, blocks, blocks, blocks_right s a b m h n]
    congr 2
    rw [show 64 * (m + n) = a.length + 64 * n by omega, List.drop_length_add_append]
theorem sum_msg (l : List UInt8) : sum l = (blocks start (msg l) ((msg l).length / 64)).bytes := by
  unfold sum
  obtain ⟨w, hw⟩ : ∃ w, l.length - l.length % 64 = w := ⟨_, rfl⟩
  have hm := msg_eq l
  rw [hw] at hm
  have hwl : (l.take w).length = 64 * (w / 64) := by
    rw [List.length_take]
    omega
  have hlen : (msg l).length / 64 = w / 64 + (pad (l.drop w) l.length).length / 64 := by
    rw [hm, List.length_append, hwl]
    omega
  rw [hlen, hm, blocks_right _ _ _ _ hwl, hw]

/-- What a round makes of the words, unreduced sums and all. -/
def oneU (s : St) (k w : Nat) : Nat := s.h + bg1 s.e + ch s.e s.f s.g + k + w
def twoU (s : St) : Nat := bg0 s.a + maj s.a s.b s.c
theorem step_u (s : St) (k w : Nat) : (step s k w).list = [(oneU s k w + twoU s) % 4294967296, s.a, s.b, s.c, (s.d + oneU s k w) % 4294967296, s.e, s.f, s.g] := by
  have h1 : one s k w = lo (oneU s k w) := rfl
  have h2 : two s = lo (twoU s) := rfl
  simp only [step, St.list, h1, h2, lo]
  congr 1
  · omega
  · congr 4
    simp
/-- The rounds of a block, some of them. -/
def rounds (s : St) (l : List UInt8) (t : Nat) : St := steps s ((consts.zip (words l)).take t)
theorem rounds_zero (s : St) (l : List UInt8) : rounds s l 0 = s := rfl
theorem rounds_succ (s : St) (l : List UInt8) (t : Nat) (h : t < 64) (k w : Nat) (hk : consts[t]? = some k) (hw : (words l)[t]? = some w) : rounds s l (t + 1) = step (rounds s l t) k w := by
  unfold rounds
  have hz : (consts.zip (words l))[t]? = some (k, w) := by
    rw [List.getElem?_zip_eq_some]
    exact ⟨hk, hw⟩
  obtain ⟨hl, e⟩ := List.getElem?_eq_some_iff.1 hz
  rw [List.take_succ_eq_append_getElem hl, e, steps_append]
  rfl
theorem rounds_all (s : St) (l : List UInt8) : s.plus (rounds s l 64) = mix s l := by
  unfold rounds mix
  rw [List.take_of_length_le (by simp [consts_length, words_length])]
theorem rounds_ok (s : St) (l : List UInt8) (t : Nat) (h : s.Ok) : (rounds s l t).Ok := steps_ok _ _ h
theorem consts_lt : ∀ k ∈ consts, k < 4294967296 := by decide
end Go.Proofs.YtnmjgbkifglleaaDoor.sha
