/-
  Tags as mathematics.
-/
import Derived.Test.YtnmjgbkifglleaaDoorShaK
namespace Go.Proofs.YtnmjgbkifglleaaDoor.sha
set_option linter.unusedVariables false

/-- What plays a key's part. -/
def keyOf (key : List UInt8) : List UInt8 := if 64 < key.length then sum key else key
theorem keyOf_le (key : List UInt8) : (keyOf key).length ≤ 64 := by
  unfold keyOf
  split
  · rw [sum_length]; omega
  · omega
/-- A key's block. -/
def blk (key : List UInt8) : List UInt8 := keyOf key ++ List.replicate (64 - (keyOf key).length) 0
theorem blk_length (key : List UInt8) : (blk key).length = 64 := by
  have := keyOf_le key
  simp [blk]
  omega
/-- The block under a number. -/
def undr (b : List UInt8) (n : UInt8) : List UInt8 := b.map fun x => x ^^^ n
theorem undr_length (b : List UInt8) (n : UInt8) : (undr b n).length = b.length := by simp [undr]
def inner (key b : List UInt8) : List UInt8 := sum (undr (blk key) 54 ++ b)
def tag (key b : List UInt8) : List UInt8 := sum (undr (blk key) 92 ++ inner key b)
theorem tag_length (key b : List UInt8) : (tag key b).length = 32 := sum_length _
theorem inner_length (key b : List UInt8) : (inner key b).length = 32 := sum_length _
theorem tag_of_blk {k1 k2 : List UInt8} (b : List UInt8) (h : blk k1 = blk k2) : tag k1 b = tag k2 b := by unfold tag inner; rw [h]
/-- The digest of a longer key makes the same tags. -/
theorem blk_sum (key : List UInt8) (h : 64 < key.length) : blk (sum key) = blk key := by
  have h1 : keyOf key = sum key := by unfold keyOf; rw [if_pos h]
  have h2 : keyOf (sum key) = sum key := by unfold keyOf; rw [if_neg (by rw [sum_length]; omega)]
  unfold blk
  rw [h1, h2]
/-- Noughts behind a key make the same tags. -/
theorem blk_zeros (key : List UInt8) (m : Nat) (h : key.length + m ≤ 64) : blk (key ++ List.replicate m 0) = blk key := by
  have h1 : keyOf key = key := by unfold keyOf; rw [if_neg (by omega)]
  have h2 : keyOf (key ++ List.replicate m 0) = key ++ List.replicate m 0 := by unfold keyOf; rw [if_neg (by simp; omega)]
  unfold blk
  rw [h1, h2, List.append_assoc, List.replicate_append_replicate, List.length_append, List.length_replicate]
  congr 2
  omega
theorem xor_u8 (b n : UInt8) : ((b ^^^ n).toNat : Int) = ((b.toNat ^^^ n.toNat : Nat) : Int) := by rw [UInt8.toNat_xor]
theorem tag_jefe : tag [74, 101, 102, 101] [119, 104, 97, 116, 32, 100, 111, 32, 121, 97, 32, 119, 97, 110, 116, 32, 102, 111, 114, 32, 110, 111, 116, 104, 105, 110, 103, 63] = [91, 220, 193, 70, 191, 96, 117, 78, 106, 4, 36, 38, 8, 149, 117, 199, 90, 0, 63, 8, 157, 39, 57, 131, 157, 236, 88, 185, 100, 236, 56, 67] := by decide +kernel
end Go.Proofs.YtnmjgbkifglleaaDoor.sha
