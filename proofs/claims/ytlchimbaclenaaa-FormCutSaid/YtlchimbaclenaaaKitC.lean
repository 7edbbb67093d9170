/-
  Contracts of the kit's functions on lists of bytes: kept lists, lists that are written over; entries.
-/
import Derived.Test.YtlchimbaclenaaaKitB
namespace Go.Proofs.Ytlchimbaclenaaa.kit
open Go.RowKit Go.Proofs.Ytlchimbaclenaaa.mem
set_option linter.unusedVariables false

theorem vb_cell (l : List UInt8) (k : Nat) (h : k < l.length) : (vb l).toArray[k]? = some (.int .u8 (l[k].toNat : Int)) := by simp [vb, h]
theorem lm_left (l m : List UInt8) (k : Nat) (h : k < l.length) : (vb (l ++ m)).toArray[k]? = some (.int .u8 (l[k].toNat : Int)) := by
  rw [vb_cell (l ++ m) k (by simp; omega), List.getElem_append_left h]
theorem lm_right (l : List UInt8) (k : Nat) (h : l.length ≤ k) (h2 : k < l.length + 12) : (vb (l ++ marks 1 12)).toArray[k]? = some (.int .u8 ((mkB 1 ((k - l.length : Nat) : Int)).toNat : Int)) := by
  rw [vb_cell (l ++ marks 1 12) k (by simp [marks_length]; omega), List.getElem_append_right h, marks_get]

end Go.Proofs.Ytlchimbaclenaaa.kit
