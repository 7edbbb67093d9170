/-
  ins.Right of an instruction in its eight parts.
-/
import Derived.Test.YtlchimbaclenaaaInsF
import Derived.Test.YtlchimbaclenaaaInsL
namespace Go.Proofs.Ytlchimbaclenaaa.ins
open Go.RowKit Go.Proofs.Ytlchimbaclenaaa.mem Go.Proofs.Ytlchimbaclenaaa.kit
set_option linter.unusedVariables false

theorem right_x (o : Int) (n : Bool) (d s : Int) (u : Bool) (f m z : Int) (B : Bool) (h : ok ⟨o, n, d, s, u, f, m, z⟩ = B) (w : World) :
    Calls Try.prog 25 #[.agg #[.int .u8 o, .bool n, .int .i64 d, .int .i64 s, .bool u, .int .i64 f, .int .i64 m, .int .i64 z]] w fun e w' => e = .returned (.bool B) ∧ New w w' := h ▸ Right_any ⟨o, n, d, s, u, f, m, z⟩ w
end Go.Proofs.Ytlchimbaclenaaa.ins
