/-
  Contracts of ins: what numbers an instruction may have; Right.
-/
import Derived.Test.YtlchimbaclenaaaInsB
import Derived.BigQuiet
import Derived.Deep.QuietTactic
namespace Go.Proofs.Ytlchimbaclenaaa.ins
open Go.RowKit Go.Proofs.Ytlchimbaclenaaa.mem Go.Proofs.Ytlchimbaclenaaa.kit
set_option linter.unusedVariables false

def fitB (f : Int) (dst src off imm siz : Int) : Bool :=
  inB dst 0 (if has f 2 = true then 9 else 10) && (inB src 0 10 && (inB off (-32768) 32767 && (inB imm (-2147483648) 2147483647 && (sizd siz || !has f 64))))

set_option maxRecDepth 100000 in
set_option maxHeartbeats 2000000 in
theorem fit_any (f : Int) (op : Int) (nar : Bool) (dst src : Int) (use : Bool) (off imm siz : Int) (w : World) :
    Calls Try.prog 43 #[.int .u8 f, .agg #[.int .u8 op, .bool nar, .int .i64 dst, .int .i64 src, .bool use, .int .i64 off, .int .i64 imm, .int .i64 siz]] w fun e w' =>
      e = .returned (.bool (fitB f dst src off imm siz)) ∧ New w w' := by
  have hN := new1 w (.cells #[.int .u8 op, .bool nar, .int .i64 dst, .int .i64 src, .bool use, .int .i64 off, .int .i64 imm, .int .i64 siz] 34)
  unfold fitB
  rcases h2 : has f 2 with _ | _
  all_goals
    go_enter Try.func43, Try.ntmps43
    go_wp2_with (first
      | (go_at_call 41; refine (any_any _ _ _).mono ?_; rintro e w1 ⟨rfl, rfl⟩)
      | (go_at_call 24; refine (within_any _ _ _ _).mono ?_; rintro e w1 ⟨rfl, rfl⟩)
      | (go_at_call 44; refine (isSize_any _ _).mono ?_; rintro e w1 ⟨rfl, rfl⟩))
    all_goals (go_ret; exact ⟨rfl, hN⟩)

/-- Are two instructions the same, field by field? -/
def sameB (o : Int) (n : Bool) (d s : Int) (u : Bool) (f m z : Int) (o' : Int) (n' : Bool) (d' s' : Int) (u' : Bool) (f' m' z' : Int) : Bool :=
  o == o' && (n == n' && (d == d' && (s == s' && (u == u' && (f == f' && (m == m' && z == z'))))))
theorem eq_ins (o : Int) (n : Bool) (d s : Int) (u : Bool) (f m z : Int) (o' : Int) (n' : Bool) (d' s' : Int) (u' : Bool) (f' m' z' : Int) (w : World) :
    (Op.equalIn 10000 34 (.agg #[.int .u8 o, .bool n, .int .i64 d, .int .i64 s, .bool u, .int .i64 f, .int .i64 m, .int .i64 z]) (.agg #[.int .u8 o', .bool n', .int .i64 d', .int .i64 s', .bool u', .int .i64 f', .int .i64 m', .int .i64 z'])).run Try.prog w = .ok (sameB o n d s u f m z o' n' d' s' u' f' m' z') w := by
  have hS : Try.prog.underlying 34 = some (.struct (Try.prog.fieldsOf 34)) := by kernel_rfl
  have hp : Try.prog.stoodInHeld 34 = false := by kernel_rfl
  have u1 := Try.underlying32
  have u2 := Try.underlying4
  have u3 := Try.underlying3
  rw [show (10000 : Nat) = 9999 + 1 from rfl, run_equalIn_agg w 9999 34 _ _ hS hp]
  simp only [Program.fieldsOf, Try.underlying34]
  unfold sameB
  go_simp
  by_cases h0 : o = o' <;> by_cases h1 : n = n' <;> by_cases h2 : d = d' <;> by_cases h3 : s = s' <;> by_cases h4 : u = u' <;> by_cases h5 : f = f' <;> by_cases h6 : m = m' <;> by_cases h7 : z = z' <;> simp [h0, h1, h2, h3, h4, h5, h6, h7]
end Go.Proofs.Ytlchimbaclenaaa.ins
