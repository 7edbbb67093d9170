/-
  Contracts of the document's writers.
-/
import Derived.Test.YtpkiopijfhkagaaDoorWireB
namespace Go.Proofs.YtpkiopijfhkagaaDoor.rwire
open Go.RowKit Go.Proofs.YtpkiopijfhkagaaDoor.mem Go.Proofs.YtpkiopijfhkagaaDoor.kit Go.Proofs.YtpkiopijfhkagaaDoor.wire
set_option linter.unusedVariables false

theorem numB_take (n : Int) (k : Nat) (h : k < 8) : (numB n).take (k + 1) = (numB n).take k ++ [nbyte n k] := by
  rw [← List.take_append_getElem (by rw [numB_length]; exact h)]
  simp [numB]

/-- A row that grows, and what stands beside it. -/
structure Acc (w0 : World) (B g : Nat) (a b c d e f : Value) (A : Option Addr) (m : Nat) (r : List Value) (v : Value) (l : List UInt8) (w : World) : Prop where
  own : w.ownsRow B 5 1 v l.length (vb l)
  base : B ≤ w.heap.size
  at_ : g < B
  old : w0.heap.size ≤ B
  new : New w0 w
  reads : Reads w w0.heap.size 1 A m r
  six : Six w g a b c d e f

end Go.Proofs.YtpkiopijfhkagaaDoor.rwire
