/-
  The document's Right and Jumps, of any instruction.
-/
import Derived.Test.YtlchimbaclenaaaInsJ
namespace Go.Proofs.Ytlchimbaclenaaa.ins
open Go.RowKit Go.Proofs.Ytlchimbaclenaaa.mem Go.Proofs.Ytlchimbaclenaaa.kit
set_option linter.unusedVariables false

theorem RRight_any (i : In) (w : World) : Calls Try.prog 21 #[i.val] w fun e w' => e = .returned (.bool (ok i)) ∧ New w w' := by
  obtain ⟨o, n, d, s, u, f, m, z⟩ := i
  unfold In.val
  rcases ops_cases o with ⟨h0, h1⟩ | rfl | rfl | rfl | rfl | ⟨h0, h1⟩ | rfl | h
  · have e : ok ⟨o, n, d, s, u, f, m, z⟩ = (tgt d && (sec u s m && (decide (f = 0) && decide (z = 0)))) := by unfold ok; rw [if_pos ⟨h0, h1⟩]
    rw [e]
    exact rright_a o n d s u f m z h0 h1 w
  · exact rright_b n d s u f m z w
  · exact rright_c n d s u f m z w
  · exact rright_d n d s u f m z w
  · exact rright_e n d s u f m z w
  · have e : ok ⟨o, n, d, s, u, f, m, z⟩ = (reg d && (far f && (sec u s m && decide (z = 0)))) := by
      unfold ok; rw [if_neg (by simp only; omega), if_neg (by simp only; omega), if_neg (by simp only; omega), if_neg (by simp only; omega), if_neg (by simp only; omega), if_pos ⟨h0, h1⟩]
    rw [e]
    exact rright_f o n d s u f m z h0 h1 w
  · have e : ok ⟨28, n, d, s, u, f, m, z⟩ = (decide ((28 : Int) = 28) && (!n && (decide (d = 0) && (decide (s = 0) && (!u && (decide (f = 0) && (decide (m = 0) && decide (z = 0)))))))) := by
      rw [decide_eq_true (rfl : (28 : Int) = 28), Bool.true_and]
      rfl
    rw [e]
    exact rright_g 28 n d s u f m z (by omega) w
  · have e : ok ⟨o, n, d, s, u, f, m, z⟩ = (decide (o = 28) && (!n && (decide (d = 0) && (decide (s = 0) && (!u && (decide (f = 0) && (decide (m = 0) && decide (z = 0)))))))) := by
      rw [ok_0 _ h, decide_eq_false (by omega), Bool.false_and]
    rw [e]
    exact rright_g o n d s u f m z (by omega) w

theorem RJumps_any (i : In) (w : World) : Calls Try.prog 22 #[i.val] w fun e w' => e = .returned (.bool (jumps i)) ∧ New w w' := by
  obtain ⟨o, n, d, s, u, f, m, z⟩ := i
  unfold In.val
  have H : Hid (jumps ⟨o, n, d, s, u, f, m, z⟩ = (o == 16 || cond ⟨o, n, d, s, u, f, m, z⟩)) := Lib.hid (by
    rw [Bool.eq_iff_iff]; simp [jumps, cond]; omega)
  go_enter Try.func22, Try.ntmps22
  go_wp2_with (go_at_call 38; refine (cond_any _ _ _ _ _ _ _ _ _).mono ?_; rintro e w1 ⟨rfl, hn1⟩)
  all_goals
    go_ret
    refine ⟨ret_bool ?_, by first | exact new1 w _ | exact New.then (new1 w _) hn1⟩
    first
      | (rw [H.out]; done)
      | (rw [H.out]; simp_all; done)
      | (simp_all; done)
end Go.Proofs.Ytlchimbaclenaaa.ins
