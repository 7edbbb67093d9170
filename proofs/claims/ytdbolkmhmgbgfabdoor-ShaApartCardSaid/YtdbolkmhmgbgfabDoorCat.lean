/-
  Bytes that were made; slices.Grow, slices.Concat.
-/
import Derived.Test.YtdbolkmhmgbgfabDoorKitC
import Derived.Lib.AppendZerosOnto
import Derived.Lib.SliceRun
namespace Go.Proofs.YtdbolkmhmgbgfabDoor.wire
open Go.RowKit Go.Proofs.YtdbolkmhmgbgfabDoor.mem Go.Proofs.YtdbolkmhmgbgfabDoor.kit
set_option linter.unusedVariables false

/-- Bytes that were made: a row of the call's own. -/
def Got (w : World) (l : List UInt8) (e : Ending) (w' : World) : Prop := ∃ A c, e = .returned (.slice A l.length c) ∧ w'.ownsRow w.heap.size 5 1 (.slice A l.length c) l.length (vb l) ∧ New w w'
theorem Got.mk {w w' : World} {l : List UInt8} {v : Value} (ho : w'.ownsRow w.heap.size 5 1 v l.length (vb l)) (hn : New w w') : Got w l (.returned v) w' := by
  obtain ⟨A, c, rfl, _⟩ := own_len ho
  exact ⟨A, c, rfl, ho, hn⟩

/-- Slices that stand in a row, and what they read as. -/
def Parts (w : World) (vs : List Value) (ls : List (List UInt8)) : Prop :=
  vs.length = ls.length ∧ ∀ (k : Nat) (h : k < ls.length), ∃ A c, vs[k]? = some (.slice A ls[k].length c) ∧ Reads w w.heap.size 1 A ls[k].length (vb ls[k])
theorem Parts.new {w w' : World} {vs : List Value} {ls : List (List UInt8)} (h : Parts w vs ls) (hn : New w w') : Parts w' vs ls :=
  ⟨h.1, fun k hk => by obtain ⟨A, c, e, hr⟩ := h.2 k hk; exact ⟨A, c, e, hr.new hn⟩⟩
theorem flat_take (ls : List (List UInt8)) (k : Nat) (h : k < ls.length) : (ls.take (k + 1)).flatten = (ls.take k).flatten ++ ls[k] := by
  rw [← List.take_append_getElem h, List.flatten_append, List.flatten_singleton]
theorem flat_le (ls : List (List UInt8)) (k : Nat) : (ls.take k).flatten.length ≤ ls.flatten.length := by
  have h := congrArg (fun l : List (List UInt8) => l.flatten.length) (List.take_append_drop k ls)
  simp only [List.flatten_append, List.length_append] at h
  omega

/-- How long the first k parts are. -/
def plen (ls : List (List UInt8)) (k : Nat) : Nat := (ls.take k).flatten.length
theorem plen_succ (ls : List (List UInt8)) (k : Nat) (h : k < ls.length) : plen ls (k + 1) = plen ls k + ls[k].length := by
  unfold plen; rw [flat_take ls k h, List.length_append]
theorem plen_all (ls : List (List UInt8)) : plen ls ls.length = ls.flatten.length := by unfold plen; rw [List.take_length]
theorem plen_le (ls : List (List UInt8)) (k : Nat) : plen ls k ≤ ls.flatten.length := flat_le ls k

/-- Parts, one behind the other. -/
def catB (ls : List (List UInt8)) : List UInt8 := ls.flatten

theorem reads_blk {w : World} {g : Nat} {t : TypeId} {cs : Array Value} (h : Blk w g t cs) : Reads w w.heap.size 1 (some ⟨g, 0, none⟩) cs.size cs.toList :=
  ⟨by simp, fun _ => ⟨_, rfl, h.lt, fun j u hu => by
    have : (⟨g, 0, none⟩ : Addr).add j = ⟨g, j, none⟩ := by unfold Addr.add; split <;> simp_all
    rw [this, h.cell]; simpa using hu⟩⟩

end Go.Proofs.YtdbolkmhmgbgfabDoor.wire
