/-
  AluParts, its four cases put together.
-/
import Derived.Test.YtkegoiibhleflaaParts
namespace Go.Proofs.Ytkegoiibhleflaa.laws
open Go.ChangeShapes Go.WideShapes Go.ChangeAt Go.RowKit Go.Proofs.Ytkegoiibhleflaa.alu Go.Proofs.Ytkegoiibhleflaa.ends
set_option linter.unusedVariables false

theorem beq_no {x : Int} (h : ¬ x = 0) : (x == 0) = false ∧ (x != 0) = true := ⟨by simp [h], by simp [h]⟩
theorem beq_yes {x : Int} (h : x = 0) : (x == 0) = true ∧ (x != 0) = false := ⟨by simp [h], by simp [h]⟩

theorem AluParts_walk (nar : Bool) (a b : Int) (w1 : (Lit.int .u64 a).wf = true) (w2 : (Lit.int .u64 b).wf = true) (w : World) :
    Calls Try.prog 6 #[.bool nar, .int .u64 a, .int .u64 b] w fun e w' => e = .returned (.bool true) ∧ New w w' := by
  obtain ⟨a0, a1⟩ := wf_u64 w1
  obtain ⟨b0, b1⟩ := wf_u64 w2
  have f1 := part1 nar a b a0 a1
  have f2 := part2 nar a b a0 a1
  by_cases hz : cut nar b = 0
  · have f3 := doErr_no 4 (by omega) nar b hz
    have f4 := doErr_no 5 (by omega) nar b hz
    cases nar
    · exact parts_false_zero a b a0 a1 b0 b1 f1 f2 (beq_yes hz).1 (beq_yes hz).2 f3 f4 w
    · exact parts_true_zero a b a0 a1 b0 b1 f1 f2 (beq_yes hz).1 (beq_yes hz).2 f3 f4 w
  · have f3 := doErr_ok 4 (by omega) nar b hz
    have f4 := doErr_ok 5 (by omega) nar b hz
    have f11 := part3 nar a b a0 a1 b0 b1 hz
    have f12 := part4 nar a b a0 a1 b0 b1 hz
    cases nar
    · exact parts_false_more a b a0 a1 b0 b1 f1 f2 (beq_no hz).1 (beq_no hz).2 f3 f4 f11 f12 w
    · exact parts_true_more a b a0 a1 b0 b1 f1 f2 (beq_no hz).1 (beq_no hz).2 f3 f4 f11 f12 w

end Go.Proofs.Ytkegoiibhleflaa.laws
