/-
  The document's parts of a line.
-/
import Derived.Test.YtddojdgnakajmaaGreatDoorTZI
namespace Go.Proofs.YtddojdgnakajmaaGreatDoor.txt
open Go.RowKit Go.Proofs.YtddojdgnakajmaaGreatDoor.mem Go.Proofs.YtddojdgnakajmaaGreatDoor.kit Go.Proofs.YtddojdgnakajmaaGreatDoor.ins
set_option linter.unusedVariables false
set_option linter.unusedSimpArgs false

end Go.Proofs.YtddojdgnakajmaaGreatDoor.txt

namespace Go.Proofs.YtddojdgnakajmaaGreatDoor.txt
open Go.RowKit Go.Proofs.YtddojdgnakajmaaGreatDoor.mem Go.Proofs.YtddojdgnakajmaaGreatDoor.kit Go.Proofs.YtddojdgnakajmaaGreatDoor.ins
set_option linter.unusedVariables false
set_option linter.unusedSimpArgs false

/-- The document's list of words, from Add on; empty: none. -/
def rws : List Bs := [nameB 1, nameB 2, nameB 3, nameB 4, nameB 5, nameB 6, nameB 7, nameB 8, nameB 9, nameB 10, nameB 11, nameB 12, nameB 13, [], [], [], nameB 17, nameB 18, nameB 19, nameB 20, nameB 21, nameB 22, nameB 23, nameB 24, nameB 25, nameB 26, nameB 27]
def RwD (w : World) (e : Ending) (w' : World) : Prop := ∃ b, e = .returned (.slice (some ⟨b, 0, none⟩) 27 27) ∧ (∀ j, j < 27 → w'.cell? ⟨b, j, none⟩ = some (sv (rws.getD j []))) ∧ New w w'
set_option maxRecDepth 100000 in
theorem rwords_any (w : World) : Calls Tryz.prog 175 #[] w (RwD w) := by
  go_enter Tryz.func175, Tryz.ntmps175
  go_wp2
  go_ret
  have hb := Blk.new w 9 (rws.map sv).toArray
  refine ⟨w.heap.size, rfl, fun j hj => ?_, new1 w _⟩
  refine (hb.cell j).trans ?_
  have hl : j < rws.length := hj
  simp [hl, List.getD]
end Go.Proofs.YtddojdgnakajmaaGreatDoor.txt
