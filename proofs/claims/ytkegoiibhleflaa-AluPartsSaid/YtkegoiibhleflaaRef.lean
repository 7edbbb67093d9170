/-
  Contracts of the document's answers for alu.
-/
import Derived.Test.YtkegoiibhleflaaAluDo
import Derived.LoopTactic
import Derived.Laws.BitsAllLaws
namespace Go.Proofs.Ytkegoiibhleflaa.ref
open Go.ChangeShapes Go.WideShapes Go.ChangeAt Go.RowKit Go.Proofs.Ytkegoiibhleflaa.lit Go.Proofs.Ytkegoiibhleflaa.alu
set_option linter.unusedVariables false

theorem shr_one (n j : Nat) (hn : n ≤ 18446744073709551615) : (bits BinOp.and IntKind.u64 ((n : Int) / 2 ^ j) 1 == 1) = n.testBit j := by
  have e : ((n : Int) / 2 ^ j) = ((n / 2 ^ j : Nat) : Int) := by simp
  have hd : n / 2 ^ j ≤ n := Nat.div_le_self _ _
  rw [e, show (1 : Int) = ((1 : Nat) : Int) from rfl, u64_and_nat _ 1 (by omega) (by omega)]
  rw [Nat.and_one_is_mod, Nat.testBit_eq_decide_div_mod_eq]
  by_cases h : n / 2 ^ j % 2 = 1
  · simp [h]
  · have : n / 2 ^ j % 2 = 0 := by omega
    simp [this]

theorem bit_any (n j : Int) (w : World) (n0 : 0 ≤ n) (n1 : n ≤ 18446744073709551615) (j0 : 0 ≤ j) (j1 : j < 64) :
    Calls Try.prog 19 #[.int .u64 n, .int .i64 j] w fun e w' => e = .returned (.bool (n.toNat.testBit j.toNat)) ∧ w = w' := by
  go_enter Try.func19, Try.ntmps19
  go_wp2
  go_ret
  refine ⟨?_, rfl⟩
  obtain ⟨n, rfl⟩ := Int.eq_ofNat_of_zero_le n0
  simp
  exact shr_one n j.toNat (by omega)

/-- A number put together bit by bit. -/
def gather (f : Nat → Bool) : Nat → Nat
  | 0 => 0
  | k + 1 => if f k then gather f k ||| 2 ^ k else gather f k

theorem gather_lt (f : Nat → Bool) : ∀ k, gather f k < 2 ^ k
  | 0 => by simp [gather]
  | k + 1 => by
    have h := gather_lt f k
    have h2 : 2 ^ k < 2 ^ (k + 1) := Nat.pow_lt_pow_right (by decide) (by omega)
    unfold gather
    split
    · exact Nat.or_lt_two_pow (by omega) h2
    · omega

theorem gather_testBit (f : Nat → Bool) (i : Nat) : ∀ k, (gather f k).testBit i = (decide (i < k) && f i)
  | 0 => by simp [gather]
  | k + 1 => by
    unfold gather
    have ih := gather_testBit f i k
    by_cases hk : f k = true
    · rw [if_pos hk, Nat.testBit_or, ih, Nat.testBit_two_pow]
      by_cases h : k = i
      · subst h; simp [hk]
      · by_cases hi : i < k
        · simp [hi, h]; intro _; omega
        · have : ¬ i < k + 1 := by omega
          simp [hi, h, this]
    · rw [if_neg hk, ih]
      by_cases h : k = i
      · subst h; simp [hk]
      · by_cases hi : i < k
        · have : i < k + 1 := by omega
          simp [hi, this]
        · have : ¬ i < k + 1 := by omega
          simp [hi, this]

def eachB (op : Int) (x y : Bool) : Bool := if (op == 8) = true then x != y else if (op == 7) = true then x || y else x && y
def eachF (op a b : Int) (k : Nat) : Bool := eachB op (a.toNat.testBit k) (b.toNat.testBit k)

theorem or_step (f : Nat → Bool) (k : Nat) (hk : k < 64) : bits BinOp.or IntKind.u64 ((gather f k : Nat) : Int) (IntKind.u64.wrap (2 ^ k)) = ((gather f k ||| 2 ^ k : Nat) : Int) := by
  have hp : 2 ^ k < 2 ^ 64 := Nat.pow_lt_pow_right (by decide) hk
  have hg := gather_lt f k
  have e : IntKind.u64.wrap (2 ^ k) = ((2 ^ k : Nat) : Int) := by
    rw [show ((2 : Int) ^ k) = ((2 ^ k : Nat) : Int) by simp]
    exact IntWalk.u64_in _ (by omega)
  rw [e, u64_or_nat _ _ (by omega) (by omega)]

theorem each_any (op a b : Int) (w : World) (a0 : 0 ≤ a) (a1 : a ≤ 18446744073709551615) (b0 : 0 ≤ b) (b1 : b ≤ 18446744073709551615) :
    Calls Try.prog 17 #[.int .u8 op, .int .u64 a, .int .u64 b] w fun e w' => e = .returned (.int .u64 (gather (eachF op a b) 64)) ∧ w = w' := by
  cases h7 : (op == 7) <;> cases h8 : (op == 8)
  all_goals
    go_enter Try.func17, Try.ntmps17
    go_wp2
    go_loop [7, 8] (fun v i => ∃ k : Nat, k ≤ 64 ∧ i = .int .i64 k ∧ v = .int .u64 (gather (eachF op a b) k)) (fun _ i => 64 - (intOf i).toNat)
    case atStart => exact ⟨0, Nat.zero_le _, rfl, rfl⟩
    case round =>
      obtain ⟨k, hk, rfl, rfl⟩ := hrel
      by_cases hlt : k < 64
      · cases hx : a.toNat.testBit k <;> cases hy : b.toNat.testBit k
        all_goals
          go_wp2_with (go_at_call 19; refine (bit_any _ _ _ (by omega) (by omega) (by omega) (by omega)).mono ?_; rintro e w' ⟨rfl, rfl⟩)
          go_round
          case rel =>
            first
            | (have hf : eachF op a b k = false := by simp [eachF, eachB, hx, hy, h7, h8]
               exact ⟨k + 1, by omega, by go_num, by rw [gather, if_neg (by simp [hf])]⟩)
            | (have hf : eachF op a b k = true := by simp [eachF, eachB, hx, hy, h7, h8]
               refine ⟨k + 1, by omega, by go_num, ?_⟩
               rw [gather, if_pos hf]
               exact congrArg (Value.int IntKind.u64) (or_step (eachF op a b) k hlt))
          case measure => simp [intOf]; omega
      · go_wp2
        go_ret
        obtain rfl : k = 64 := by omega
        exact ⟨rfl, rfl⟩

def movedF (a by' size : Int) (inn : Bool) (k : Nat) : Bool := if 0 ≤ (k : Int) - by' ∧ (k : Int) - by' < size then a.toNat.testBit ((k : Int) - by').toNat else inn

theorem moved_any (a by' : Int) (size : Nat) (inn : Bool) (w : World) (a0 : 0 ≤ a) (a1 : a ≤ 18446744073709551615) (b0 : -64 ≤ by') (b1 : by' ≤ 64) (s1 : size ≤ 64) :
    Calls Try.prog 18 #[.int .u64 a, .int .i64 by', .int .i64 size, .bool inn] w fun e w' => e = .returned (.int .u64 (gather (movedF a by' size inn) size)) ∧ w = w' := by
  go_enter Try.func18, Try.ntmps18
  go_wp2
  go_loop [9, 10] (fun v i => ∃ k : Nat, k ≤ size ∧ i = .int .i64 k ∧ v = .int .u64 (gather (movedF a by' size inn) k)) (fun _ i => size - (intOf i).toNat)
  case atStart => exact ⟨0, Nat.zero_le _, rfl, rfl⟩
  case round =>
    obtain ⟨k, hk, rfl, rfl⟩ := hrel
    by_cases hlt : k < size
    · by_cases hfrom : 0 ≤ (k : Int) - by' ∧ (k : Int) - by' < size
      · obtain ⟨hf0, hf1⟩ := hfrom
        cases hx : a.toNat.testBit ((k : Int) - by').toNat
        all_goals
          go_wp2_with (go_at_call 19; refine (bit_any _ _ _ (by omega) (by omega) (by omega) (by omega)).mono ?_; rintro e w' ⟨rfl, rfl⟩)
          go_round
          case rel =>
            first
            | (have hf : movedF a by' size inn k = false := by simp only [movedF, if_pos (And.intro hf0 hf1), hx]
               exact ⟨k + 1, by omega, by go_num, by rw [gather, if_neg (by simp [hf])]⟩)
            | (have hf : movedF a by' size inn k = true := by simp only [movedF, if_pos (And.intro hf0 hf1), hx]
               refine ⟨k + 1, by omega, by go_num, ?_⟩
               rw [gather, if_pos hf]
               exact congrArg (Value.int IntKind.u64) (or_step (movedF a by' size inn) k (by omega)))
          case measure => simp [intOf]; omega
      · have hm : movedF a by' size inn k = inn := by simp only [movedF, if_neg hfrom]
        have hcase : (k : Int) < by' ∨ (by' ≤ (k : Int) ∧ (size : Int) ≤ (k : Int) - by') := by omega
        clear hfrom
        have HM := Lib.hid hm
        clear hm
        rcases hcase with h1 | ⟨h1, h2⟩ <;> cases inn
        all_goals
          go_wp2_with fail
          go_round
          case rel =>
            first
            | (have hz : movedF a by' size false k = false := HM.out
               exact ⟨k + 1, by omega, by go_num, by rw [gather, if_neg (by simp [hz])]⟩)
            | (refine ⟨k + 1, by omega, by go_num, ?_⟩
               rw [gather, if_pos HM.out]
               exact congrArg (Value.int IntKind.u64) (or_step (movedF a by' size true) k (by omega)))
          case measure => simp [intOf]; omega
    · go_wp2
      go_ret
      obtain rfl : k = size := by omega
      exact ⟨rfl, rfl⟩

end Go.Proofs.Ytkegoiibhleflaa.ref
