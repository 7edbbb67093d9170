/-
  Contracts of the kit's functions on entries: lent, kept.
-/
import Derived.Test.YtpkiopijfhkagaaDoorReaderE
import Derived.Test.YtpkiopijfhkagaaDoorNew
namespace Go.Proofs.YtpkiopijfhkagaaDoor.kit
open Go.RowKit Go.Proofs.YtpkiopijfhkagaaDoor.mem Go.Proofs.YtpkiopijfhkagaaDoor.wire Go.Proofs.YtpkiopijfhkagaaDoor.rd
set_option linter.unusedVariables false

/-- A lent list reads as the list. -/
theorem lent_reads {w : World} {g : Nat} {l : List UInt8} (h : Blk w g 5 (vb (l ++ marks 1 12)).toArray) : Reads w w.heap.size 1 (some ⟨g, 0, none⟩) l.length (vb l) :=
  ⟨by rw [vb_length, Nat.mul_one], fun _ => ⟨_, rfl, h.lt, fun j u hu => by
    have hj : j < l.length := by
      rcases Nat.lt_or_ge j l.length with h' | h'
      · exact h'
      · rw [List.getElem?_eq_none (by rw [vb_length]; exact h')] at hu; cases hu
    rw [vb_get l j hj] at hu
    rw [Addr.add_lit, Nat.zero_add, h.cell j, lm_left l _ j hj]
    exact hu⟩⟩

end Go.Proofs.YtpkiopijfhkagaaDoor.kit
