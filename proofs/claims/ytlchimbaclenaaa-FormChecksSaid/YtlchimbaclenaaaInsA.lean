/-
  Contracts of ins: what fields a kind has; one number within its ends.
-/
import Derived.Test.YtlchimbaclenaaaKitC
import Derived.Test.YtlchimbaclenaaaInsM
namespace Go.Proofs.Ytlchimbaclenaaa.ins
open Go.RowKit Go.Proofs.Ytlchimbaclenaaa.mem Go.Proofs.Ytlchimbaclenaaa.kit
set_option linter.unusedVariables false

theorem ret_bool {a b : Bool} (h : a = b) : Ending.returned (.bool a) = .returned (.bool b) := by rw [h]
/-- What fields a kind has. -/
def fld (op : Int) : Int :=
  if 1 ≤ op ∧ op ≤ 12 then 147 else if op = 13 then 131 else if op = 14 then 107 else if op = 15 then 117 else if op = 16 then 33 else if 17 ≤ op ∧ op ≤ 27 then 181 else if op = 28 then 1 else 0

theorem fld_1 {op : Int} (h0 : 1 ≤ op) (h1 : op ≤ 12) : fld op = 147 := by unfold fld; rw [if_pos ⟨h0, h1⟩]
theorem fld_2 {op : Int} (h0 : 17 ≤ op) (h1 : op ≤ 27) : fld op = 181 := by
  unfold fld; rw [if_neg (by omega), if_neg (by omega), if_neg (by omega), if_neg (by omega), if_neg (by omega), if_pos ⟨h0, h1⟩]
theorem fld_0 {op : Int} (h : op < 1 ∨ 28 < op) : fld op = 0 := by
  unfold fld; rw [if_neg (by omega), if_neg (by omega), if_neg (by omega), if_neg (by omega), if_neg (by omega), if_neg (by omega), if_neg (by omega)]

theorem ops_cases (op : Int) : (1 ≤ op ∧ op ≤ 12) ∨ op = 13 ∨ op = 14 ∨ op = 15 ∨ op = 16 ∨ (17 ≤ op ∧ op ≤ 27) ∨ op = 28 ∨ (op < 1 ∨ 28 < op) := by omega

set_option maxHeartbeats 1000000 in
theorem fieldsOf_any (op : Int) (w : World) : Calls Try.prog 40 #[.int .u8 op] w fun e w' => e = .returned (.int .u8 (fld op)) ∧ w = w' := by
  rcases ops_cases op with ⟨h0, h1⟩ | rfl | rfl | rfl | rfl | ⟨h0, h1⟩ | rfl | h
  · have H := Lib.hid (fld_1 h0 h1)
    go_enter Try.func40, Try.ntmps40
    go_wp2
    go_ret
    exact ⟨ret_int H.out.symm, rfl⟩
  · go_enter Try.func40, Try.ntmps40
    go_wp2
    go_ret
    exact ⟨rfl, rfl⟩
  · go_enter Try.func40, Try.ntmps40
    go_wp2
    go_ret
    exact ⟨rfl, rfl⟩
  · go_enter Try.func40, Try.ntmps40
    go_wp2
    go_ret
    exact ⟨rfl, rfl⟩
  · go_enter Try.func40, Try.ntmps40
    go_wp2
    go_ret
    exact ⟨rfl, rfl⟩
  · have H := Lib.hid (fld_2 h0 h1)
    have n1 : ¬ op ≤ 12 := by omega
    have n2 : (op == 13) = false := by simp; omega
    have n3 : (op == 14) = false := by simp; omega
    have n4 : (op == 15) = false := by simp; omega
    have n5 : (op == 16) = false := by simp; omega
    go_enter Try.func40, Try.ntmps40
    go_wp2
    go_ret
    exact ⟨ret_int H.out.symm, rfl⟩
  · go_enter Try.func40, Try.ntmps40
    go_wp2
    go_ret
    exact ⟨rfl, rfl⟩
  · have H := Lib.hid (fld_0 h)
    have n2 : (op == 13) = false := by simp; omega
    have n3 : (op == 14) = false := by simp; omega
    have n4 : (op == 15) = false := by simp; omega
    have n5 : (op == 16) = false := by simp; omega
    have n6 : (op == 28) = false := by simp; omega
    rcases h with h | h
    · have m1 : ¬ 1 ≤ op := by omega
      have m2 : ¬ 17 ≤ op := by omega
      go_enter Try.func40, Try.ntmps40
      go_wp2
      go_ret
      exact ⟨ret_int H.out.symm, rfl⟩
    · have m1 : ¬ op ≤ 12 := by omega
      have m2 : ¬ op ≤ 27 := by omega
      have m3 : 1 ≤ op := by omega
      have m4 : 17 ≤ op := by omega
      go_enter Try.func40, Try.ntmps40
      go_wp2
      go_ret
      exact ⟨ret_int H.out.symm, rfl⟩

/-- Is one of the flags g among f? -/
def has (f g : Int) : Bool := !(bits .and .u8 f g == 0)
theorem any_any (f g : Int) (w : World) : Calls Try.prog 41 #[.int .u8 f, .int .u8 g] w fun e w' => e = .returned (.bool (has f g)) ∧ w = w' := by
  go_enter Try.func41, Try.ntmps41
  go_wp2
  go_ret
  exact ⟨rfl, rfl⟩

def inB (n a b : Int) : Bool := decide (a ≤ n) && decide (n ≤ b)
theorem within_any (n a b : Int) (w : World) : Calls Try.prog 24 #[.int .i64 n, .int .i64 a, .int .i64 b] w fun e w' => e = .returned (.bool (inB n a b)) ∧ w = w' := by
  by_cases h0 : a ≤ n
  · by_cases h1 : n ≤ b
    · have H : Hid (inB n a b = true) := Lib.hid (by simp [inB, h0, h1])
      go_enter Try.func24, Try.ntmps24
      go_wp2
      go_ret
      exact ⟨ret_bool H.out.symm, rfl⟩
    · have H : Hid (inB n a b = false) := Lib.hid (by simp [inB, h0, h1])
      go_enter Try.func24, Try.ntmps24
      go_wp2
      go_ret
      exact ⟨ret_bool H.out.symm, rfl⟩
  · have H : Hid (inB n a b = false) := Lib.hid (by simp [inB, h0])
    go_enter Try.func24, Try.ntmps24
    go_wp2
    go_ret
    exact ⟨ret_bool H.out.symm, rfl⟩

theorem isSize_any (n : Int) (w : World) : Calls Try.prog 44 #[.int .i64 n] w fun e w' => e = .returned (.bool (sizd n)) ∧ w = w' := by
  by_cases h1 : n = 1
  · subst h1
    go_enter Try.func44, Try.ntmps44
    go_wp2
    go_ret
    exact ⟨rfl, rfl⟩
  · by_cases h2 : n = 2
    · subst h2
      go_enter Try.func44, Try.ntmps44
      go_wp2
      go_ret
      exact ⟨rfl, rfl⟩
    · by_cases h4 : n = 4
      · subst h4
        go_enter Try.func44, Try.ntmps44
        go_wp2
        go_ret
        exact ⟨rfl, rfl⟩
      · have H : Hid (sizd n = (n == 8)) := Lib.hid (by simp [sizd, h1, h2, h4]; rfl)
        have t1 : (n == 1) = false := by simpa using h1
        have t2 : (n == 2) = false := by simpa using h2
        have t4 : (n == 4) = false := by simpa using h4
        clear h1 h2 h4
        go_enter Try.func44, Try.ntmps44
        go_wp2
        go_ret
        exact ⟨ret_bool H.out.symm, rfl⟩
end Go.Proofs.Ytlchimbaclenaaa.ins
