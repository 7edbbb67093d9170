/-
  What alu.Do and alu.Is answer, at every argument.
-/
import Derived.Test.YtkegoiibhleflaaAluClos
namespace Go.Proofs.Ytkegoiibhleflaa.alu
open Go.ChangeShapes Go.WideShapes Go.ChangeAt Go.RowKit Go.Proofs.Ytkegoiibhleflaa.lit
set_option linter.unusedVariables false

/-- What an operator makes of two numbers that are cut already. -/
def opVal (op a b sa k : Int) : Int :=
  if op = 1 then IntKind.u64.wrap (a + b) else
  if op = 2 then IntKind.u64.wrap (a - b) else
  if op = 3 then IntKind.u64.wrap (a * b) else
  if op = 4 then a / b else
  if op = 5 then a % b else
  if op = 6 then bits BinOp.and IntKind.u64 a b else
  if op = 7 then bits BinOp.or IntKind.u64 a b else
  if op = 8 then bits BinOp.xor IntKind.u64 a b else
  if op = 9 then IntKind.u64.wrap (a * 2 ^ min (b % k).toNat 64) else
  if op = 10 then a / 2 ^ min (b % k).toNat 64 else
  if op = 11 then IntKind.u64.wrap (sa / 2 ^ min (b % k).toNat 64) else
  if op = 12 then b else
  if op = 13 then IntKind.u64.wrap (-a) else
  0
def isVal (op a b sa sb : Int) : Bool :=
  if op = 17 then a == b else
  if op = 18 then a != b else
  if op = 19 then decide (b < a) else
  if op = 20 then decide (b ≤ a) else
  if op = 21 then decide (a < b) else
  if op = 22 then decide (a ≤ b) else
  if op = 23 then decide (sb < sa) else
  if op = 24 then decide (sb ≤ sa) else
  if op = 25 then decide (sa < sb) else
  if op = 26 then decide (sa ≤ sb) else
  if op = 27 then bits BinOp.and IntKind.u64 a b != 0 else
  false

/-- The function n is a plain one with a body: a call enters it. -/
def Enters (n : Nat) : Prop := ∀ (args : Array Value) (w : World), (callFunc n args).run Try.prog w = .ok (.enter n args) w

def opBad (op b : Int) : Prop := (op = 4 ∨ op = 5) ∧ b = 0
instance (op b : Int) : Decidable (opBad op b) := by unfold opBad; infer_instance

theorem op_any (op : Int) (h : 1 ≤ op ∧ op ≤ 13) (a b sa sb m k : Int) (a0 : 0 ≤ a) (a1 : a ≤ 18446744073709551615) (b0 : 0 ≤ b) (b1 : b ≤ 18446744073709551615) (k0 : 1 ≤ k) (hne : ¬ opBad op b) :
    ∃ n, opTab op = fn n ∧ Enters n ∧ ∀ w, Calls Try.prog n #[pr a b sa sb m k] w fun e w' => e = .returned (.int .u64 (opVal op a b sa k)) ∧ New w w' := by
  have hc : op = 1 ∨ op = 2 ∨ op = 3 ∨ op = 4 ∨ op = 5 ∨ op = 6 ∨ op = 7 ∨ op = 8 ∨ op = 9 ∨ op = 10 ∨ op = 11 ∨ op = 12 ∨ op = 13 := by omega
  rcases hc with rfl | rfl | rfl | rfl | rfl | rfl | rfl | rfl | rfl | rfl | rfl | rfl | rfl
  · exact ⟨27, rfl, fun _ _ => by kernel_rfl, fun w => arithmetic1_any a b sa sb m k w a0 a1 b0 b1⟩
  · exact ⟨28, rfl, fun _ _ => by kernel_rfl, fun w => arithmetic2_any a b sa sb m k w a0 a1 b0 b1⟩
  · exact ⟨29, rfl, fun _ _ => by kernel_rfl, fun w => arithmetic3_any a b sa sb m k w a0 a1 b0 b1⟩
  · exact ⟨30, rfl, fun _ _ => by kernel_rfl, fun w => arithmetic4_any a b sa sb m k w a0 a1 b0 b1 (fun hz => hne ⟨by omega, hz⟩)⟩
  · exact ⟨31, rfl, fun _ _ => by kernel_rfl, fun w => arithmetic5_any a b sa sb m k w a0 a1 b0 b1 (fun hz => hne ⟨by omega, hz⟩)⟩
  · exact ⟨34, rfl, fun _ _ => by kernel_rfl, fun w => bitwise1_any a b sa sb m k w a0 a1 b0 b1⟩
  · exact ⟨35, rfl, fun _ _ => by kernel_rfl, fun w => bitwise2_any a b sa sb m k w a0 a1 b0 b1⟩
  · exact ⟨36, rfl, fun _ _ => by kernel_rfl, fun w => bitwise3_any a b sa sb m k w a0 a1 b0 b1⟩
  · exact ⟨37, rfl, fun _ _ => by kernel_rfl, fun w => bitwise4_any a b sa sb m k w a0 a1 b0 b1 k0⟩
  · exact ⟨39, rfl, fun _ _ => by kernel_rfl, fun w => bitwise5_any a b sa sb m k w a0 a1 b0 b1 k0⟩
  · exact ⟨40, rfl, fun _ _ => by kernel_rfl, fun w => bitwise6_any a b sa sb m k w a0 a1 b0 b1 k0⟩
  · exact ⟨32, rfl, fun _ _ => by kernel_rfl, fun w => arithmetic6_any a b sa sb m k w a0 a1 b0 b1⟩
  · exact ⟨33, rfl, fun _ _ => by kernel_rfl, fun w => arithmetic7_any a b sa sb m k w a0 a1 b0 b1⟩

theorem op_none (op : Int) (h : ¬ (1 ≤ op ∧ op ≤ 13)) : opTab op = Value.nilFunc := by
  simp only [opTab, arithTab, bitTab, askIn]
  repeat rw [if_neg (by omega)]

theorem is_any (op : Int) (h : 17 ≤ op ∧ op ≤ 27) (a b sa sb m k : Int) (a0 : 0 ≤ a) (a1 : a ≤ 18446744073709551615) (b0 : 0 ≤ b) (b1 : b ≤ 18446744073709551615) :
    ∃ n, isTab op = fn n ∧ Enters n ∧ ∀ w, Calls Try.prog n #[pr a b sa sb m k] w fun e w' => e = .returned (.bool (isVal op a b sa sb)) ∧ New w w' := by
  have hc : op = 17 ∨ op = 18 ∨ op = 19 ∨ op = 20 ∨ op = 21 ∨ op = 22 ∨ op = 23 ∨ op = 24 ∨ op = 25 ∨ op = 26 ∨ op = 27 := by omega
  rcases hc with rfl | rfl | rfl | rfl | rfl | rfl | rfl | rfl | rfl | rfl | rfl
  · exact ⟨41, rfl, fun _ _ => by kernel_rfl, fun w => plain1_any a b sa sb m k w a0 a1 b0 b1⟩
  · exact ⟨42, rfl, fun _ _ => by kernel_rfl, fun w => plain2_any a b sa sb m k w a0 a1 b0 b1⟩
  · exact ⟨43, rfl, fun _ _ => by kernel_rfl, fun w => plain3_any a b sa sb m k w a0 a1 b0 b1⟩
  · exact ⟨44, rfl, fun _ _ => by kernel_rfl, fun w => plain4_any a b sa sb m k w a0 a1 b0 b1⟩
  · exact ⟨45, rfl, fun _ _ => by kernel_rfl, fun w => plain5_any a b sa sb m k w a0 a1 b0 b1⟩
  · exact ⟨46, rfl, fun _ _ => by kernel_rfl, fun w => plain6_any a b sa sb m k w a0 a1 b0 b1⟩
  · exact ⟨48, rfl, fun _ _ => by kernel_rfl, fun w => ordered1_any a b sa sb m k w a0 a1 b0 b1⟩
  · exact ⟨49, rfl, fun _ _ => by kernel_rfl, fun w => ordered2_any a b sa sb m k w a0 a1 b0 b1⟩
  · exact ⟨50, rfl, fun _ _ => by kernel_rfl, fun w => ordered3_any a b sa sb m k w a0 a1 b0 b1⟩
  · exact ⟨51, rfl, fun _ _ => by kernel_rfl, fun w => ordered4_any a b sa sb m k w a0 a1 b0 b1⟩
  · exact ⟨47, rfl, fun _ _ => by kernel_rfl, fun w => plain7_any a b sa sb m k w a0 a1 b0 b1⟩

theorem is_none (op : Int) (h : ¬ (17 ≤ op ∧ op ≤ 27)) : isTab op = Value.nilFunc := by
  simp only [isTab, plainTab, orderTab, askIn]
  repeat rw [if_neg (by omega)]

theorem cut_in (nar : Bool) (a : Int) (a0 : 0 ≤ a) (a1 : a ≤ 18446744073709551615) : 0 ≤ cut nar a ∧ cut nar a ≤ 18446744073709551615 := by
  cases nar <;> simp [cut] <;> omega
theorem wide_in (nar : Bool) : 1 ≤ wide nar ∧ wide nar ≤ 64 := by cases nar <;> simp [wide]

theorem Is_yes (op : Int) (h : 17 ≤ op ∧ op ≤ 27) (nar : Bool) (a b : Int) (w : World) (a0 : 0 ≤ a) (a1 : a ≤ 18446744073709551615) (b0 : 0 ≤ b) (b1 : b ≤ 18446744073709551615) :
    Calls Try.prog 11 #[.int .u8 op, .bool nar, .int .u64 a, .int .u64 b] w fun e w' => e = .returned (.tuple #[.bool (isVal op (cut nar a) (cut nar b) (sgn nar a) (sgn nar b)), .int .i64 0]) ∧ New w w' := by
  have ca := cut_in nar a a0 a1
  have cb := cut_in nar b b0 b1
  obtain ⟨n, hn, hen, hcall⟩ := is_any op h (cut nar a) (cut nar b) (sgn nar a) (sgn nar b) (most nar) (wide nar) ca.1 ca.2 cb.1 cb.2
  have HQ := Lib.hid (question_any op)
  rw [hn] at HQ
  have HC := Lib.hid hcall
  have hen' : ∀ (args : Array Value) (w : World), (callFunc n args).run Try.prog w = .ok (.enter n args) w := hen
  have x1 := eqFn47
  clear hcall hn h ca cb
  go_enter Try.func11, Try.ntmps11
  go_wp2_with (first
    | (go_at_call 20; refine (HQ.out _).mono ?_; rintro e w1 ⟨rfl, hb1⟩)
    | (go_at_call 16; refine (pairOf_any nar a b _ a0 a1 b0 b1).mono ?_; rintro e w2 ⟨rfl, hb2⟩)
    | (with_reducible refine (HC.out _).mono ?_; rintro e w3 ⟨rfl, hb3⟩))
  go_ret2
  exact ⟨rfl, (hb1.then hb2).then hb3⟩

theorem Is_no (op : Int) (h : ¬ (17 ≤ op ∧ op ≤ 27)) (nar : Bool) (a b : Int) (w : World) :
    Calls Try.prog 11 #[.int .u8 op, .bool nar, .int .u64 a, .int .u64 b] w fun e w' => e = .returned (.tuple #[.bool false, .int .i64 2]) ∧ New w w' := by
  have HQ := Lib.hid (question_any op)
  rw [is_none op h] at HQ
  have x1 := eqNil47
  clear h
  go_enter Try.func11, Try.ntmps11
  go_wp2_with (first
    | (go_at_call 20; refine (HQ.out _).mono ?_; rintro e w1 ⟨rfl, hb1⟩))
  go_ret2
  exact ⟨rfl, hb1⟩

def isErr (op : Int) : Int := if 17 ≤ op ∧ op ≤ 27 then 0 else 2
def isAns (op : Int) (nar : Bool) (a b : Int) : Bool := isVal op (cut nar a) (cut nar b) (sgn nar a) (sgn nar b)

theorem isVal_out (op a b sa sb : Int) (h : ¬ (17 ≤ op ∧ op ≤ 27)) : isVal op a b sa sb = false := by
  unfold isVal; repeat rw [if_neg (by omega)]

/-- WHAT alu.Is ANSWERS. -/
theorem Is_any (op : Int) (nar : Bool) (a b : Int) (w : World) (a0 : 0 ≤ a) (a1 : a ≤ 18446744073709551615) (b0 : 0 ≤ b) (b1 : b ≤ 18446744073709551615) :
    Calls Try.prog 11 #[.int .u8 op, .bool nar, .int .u64 a, .int .u64 b] w fun e w' => e = .returned (.tuple #[.bool (isAns op nar a b), .int .i64 (isErr op)]) ∧ New w w' := by
  by_cases h : 17 ≤ op ∧ op ≤ 27
  · rw [isErr, if_pos h]; exact Is_yes op h nar a b w a0 a1 b0 b1
  · rw [isErr, if_neg h, isAns, isVal_out _ _ _ _ _ h]; exact Is_no op h nar a b w

theorem Do_no (op : Int) (h : ¬ (1 ≤ op ∧ op ≤ 13)) (nar : Bool) (a b : Int) (w : World) :
    Calls Try.prog 9 #[.int .u8 op, .bool nar, .int .u64 a, .int .u64 b] w fun e w' => e = .returned (.tuple #[.int .u64 0, .int .i64 2]) ∧ New w w' := by
  have HQ := Lib.hid (operator_any op)
  rw [op_none op h] at HQ
  have x1 := eqNil39
  clear h
  go_enter Try.func9, Try.ntmps9
  go_wp2_with (first
    | (go_at_call 15; refine (HQ.out _).mono ?_; rintro e w1 ⟨rfl, hb1⟩))
  go_ret2
  exact ⟨rfl, hb1⟩

theorem Do_bad (op : Int) (h : op = 4 ∨ op = 5) (nar : Bool) (a b : Int) (hz : cut nar b = 0) (w : World) (a0 : 0 ≤ a) (a1 : a ≤ 18446744073709551615) (b0 : 0 ≤ b) (b1 : b ≤ 18446744073709551615) :
    Calls Try.prog 9 #[.int .u8 op, .bool nar, .int .u64 a, .int .u64 b] w fun e w' => e = .returned (.tuple #[.int .u64 0, .int .i64 113]) ∧ New w w' := by
  have HP := Lib.hid (fun w => pairOf_any nar a b w a0 a1 b0 b1)
  unfold pairOf at HP
  rw [hz] at HP
  obtain ⟨n, hn⟩ : ∃ n, opTab op = fn n := by rcases h with rfl | rfl <;> exact ⟨_, rfl⟩
  have HQ := Lib.hid (operator_any op)
  rw [hn] at HQ
  have x1 := eqFn39
  clear hz hn
  generalize cut nar a = A at HP
  generalize sgn nar a = C at HP
  generalize sgn nar b = D at HP
  generalize most nar = M at HP
  generalize wide nar = K at HP
  rcases h with rfl | rfl
  all_goals
    go_enter Try.func9, Try.ntmps9
    go_wp2_with (first
      | (go_at_call 15; refine (HQ.out _).mono ?_; rintro e w1 ⟨rfl, hb1⟩)
      | (go_at_call 16; refine (HP.out _).mono ?_; rintro e w2 ⟨rfl, hb2⟩; obtain ⟨hc2, hf2⟩ := bcell hb2; have hn := hb1.then hb2; have hz := hn.size))
    go_ret2
    exact ⟨rfl, by go_grown⟩

theorem Do_yes (op : Int) (h : 1 ≤ op ∧ op ≤ 13) (nar : Bool) (a b : Int) (hne : ¬ opBad op (cut nar b)) (w : World) (a0 : 0 ≤ a) (a1 : a ≤ 18446744073709551615) (b0 : 0 ≤ b) (b1 : b ≤ 18446744073709551615) :
    Calls Try.prog 9 #[.int .u8 op, .bool nar, .int .u64 a, .int .u64 b] w fun e w' => e = .returned (.tuple #[.int .u64 (bits BinOp.and IntKind.u64 (opVal op (cut nar a) (cut nar b) (sgn nar a) (wide nar)) (most nar)), .int .i64 0]) ∧ New w w' := by
  have ca := cut_in nar a a0 a1
  have cb := cut_in nar b b0 b1
  obtain ⟨n, hn, hen, hcall⟩ := op_any op h (cut nar a) (cut nar b) (sgn nar a) (sgn nar b) (most nar) (wide nar) ca.1 ca.2 cb.1 cb.2 (wide_in nar).1 hne
  have HP := Lib.hid (fun w => pairOf_any nar a b w a0 a1 b0 b1)
  unfold pairOf at HP
  have HQ := Lib.hid (operator_any op)
  rw [hn] at HQ
  have HC := Lib.hid hcall
  have hen' : ∀ (args : Array Value) (w : World), (callFunc n args).run Try.prog w = .ok (.enter n args) w := hen
  have x1 := eqFn39
  clear hcall hn hen
  generalize opVal op (cut nar a) (cut nar b) (sgn nar a) (wide nar) = V at HC ⊢
  generalize cut nar a = A at *
  generalize sgn nar a = C at *
  generalize sgn nar b = D at *
  generalize most nar = M at *
  generalize wide nar = K at *
  generalize cut nar b = B at *
  have hcases : ((B == 0) = false) ∨ ((B == 0) = true ∧ (op == 4) = false ∧ (op == 5) = false) := by
    by_cases hB : B = 0
    · refine Or.inr ⟨by simp [hB], ?_, ?_⟩ <;> simp <;> rintro rfl <;> exact hne ⟨by omega, hB⟩
    · exact Or.inl (by simp [hB])
  clear hne h
  rcases hcases with h1 | ⟨h1, h2, h3⟩
  all_goals
    go_enter Try.func9, Try.ntmps9
    go_wp2_with (first
      | (go_at_call 15; refine (HQ.out _).mono ?_; rintro e w1 ⟨rfl, hb1⟩)
      | (go_at_call 16; refine (HP.out _).mono ?_; rintro e w2 ⟨rfl, hb2⟩; obtain ⟨hc2, hf2⟩ := bcell hb2; have hn := hb1.then hb2; have hz := hn.size))
    go_region_held3 (fun w' => w'.cell? ⟨w2.heap.size, 0, none⟩ = some (.int .u64 A) ∧ w'.cell? ⟨w2.heap.size, 1, none⟩ = some (.int .u64 B) ∧ w'.cell? ⟨w2.heap.size, 2, none⟩ = some (.int .i64 C) ∧ w'.cell? ⟨w2.heap.size, 3, none⟩ = some (.int .i64 D) ∧ w'.cell? ⟨w2.heap.size, 4, none⟩ = some (.int .u64 M) ∧ w'.cell? ⟨w2.heap.size, 5, none⟩ = some (.int .u64 K))
      (go_keep)
      (first | (with_reducible refine (HC.out _).mono ?_; rintro e w3 ⟨rfl, hb3⟩; obtain ⟨hc3, hf3⟩ := bcell hb3; have hn3 := New.then (a := w) (by go_grown) hb3; have hz3 := hb3.size; simp at hz3))
    go_wp2
    go_ret2
    exact ⟨rfl, hn3⟩

/-- An instruction's operator: what is wrong with it, and what it makes. -/
def doErr (op : Int) (nar : Bool) (b : Int) : Int := if 1 ≤ op ∧ op ≤ 13 then (if opBad op (cut nar b) then 113 else 0) else 2
def doAns (op : Int) (nar : Bool) (a b : Int) : Int := if doErr op nar b = 0 then bits BinOp.and IntKind.u64 (opVal op (cut nar a) (cut nar b) (sgn nar a) (wide nar)) (most nar) else 0

/-- WHAT alu.Do ANSWERS. -/
theorem Do_any (op : Int) (nar : Bool) (a b : Int) (w : World) (a0 : 0 ≤ a) (a1 : a ≤ 18446744073709551615) (b0 : 0 ≤ b) (b1 : b ≤ 18446744073709551615) :
    Calls Try.prog 9 #[.int .u8 op, .bool nar, .int .u64 a, .int .u64 b] w fun e w' => e = .returned (.tuple #[.int .u64 (doAns op nar a b), .int .i64 (doErr op nar b)]) ∧ New w w' := by
  unfold doAns doErr
  by_cases h : 1 ≤ op ∧ op ≤ 13
  · by_cases hb : opBad op (cut nar b)
    · rw [if_pos h, if_pos hb, if_neg (by decide)]; exact Do_bad op hb.1 nar a b hb.2 w a0 a1 b0 b1
    · rw [if_pos h, if_neg hb, if_pos rfl]; exact Do_yes op h nar a b hb w a0 a1 b0 b1
  · rw [if_neg h, if_neg (by decide)]; exact Do_no op h nar a b w

theorem Wide_any (n : Int) (w : World) :
    Calls Try.prog 13 #[.int .i64 n] w fun e w' => e = .returned (.int .u64 (IntKind.u64.wrap n)) ∧ New w w' := by
  go_enter Try.func13, Try.ntmps13
  go_wp2
  go_ret
  exact ⟨rfl, by go_grown⟩

end Go.Proofs.Ytkegoiibhleflaa.alu
