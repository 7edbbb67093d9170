/-
  An argument that is a string, opened: within reach.
-/
import Derived.Test.YtcebfihjcglnoaaGreatDoorOpenS
import Derived.ChangeMaps5
namespace Go.Proofs.YtcebfihjcglnoaaGreatDoor.opens
open Go.ChangeShapes Go.WideShapes Go.ChangeAt Go.RowKit
set_option linter.unusedVariables false
section
variable {H : Type} {enc : TypeId × Value → H} {w : World} {base : Nat} {spare : Nat → Bool} {held : Bool}
set_option maxRecDepth 100000 in
theorem str_arg {ts : List TypeId} {ds : List (DataW H)} (hsz : (DataW.weightsEach Tryz.prog ts ds).all (· ≤ reachBytes) = true) (j : Nat) {v : Value} {d : DataW H} {p : List MemPlace} {r : Reach} {b0 : Nat} (hj : ts[j]? = some 9) (hd : ds[j]? = some d)
    (hv : Value.okWide Tryz.prog w r b0 9 v) (h : DataW.Trod enc Tryz.prog w base spare held 9 v d p) :
    ∃ l : List UInt8, v = .string ⟨l.toArray⟩ ∧ l.length ≤ 140737488351232 := by
  obtain ⟨s, rfl, rfl, -, -⟩ := Go.ChangeMaps.open_string Tryz.underlying9 hv h
  have h1 : s.data.toList.length ≤ reachBytes := by simpa using List.all_eq_true.1 hsz _ (DataW.weights_mem_each hj hd s.data.toList.length (List.mem_cons_self ..))
  exact ⟨s.data.toList, by cases s; rfl, h1⟩
end
end Go.Proofs.YtcebfihjcglnoaaGreatDoor.opens
