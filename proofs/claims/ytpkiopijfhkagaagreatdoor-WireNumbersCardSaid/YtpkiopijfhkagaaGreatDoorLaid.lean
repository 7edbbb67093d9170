/-
  What the condition on the package's error variable gives a walk.
-/
import Derived.Test.YtpkiopijfhkagaaGreatDoorRows
import Derived.Test.YtpkiopijfhkagaaGreatDoorRead
import Derived.ProofKit
import Derived.LaidMore
import Derived.LaidLaws
import Derived.LaidHandle
import Derived.OpenShut
import Derived.Stop.Joined
import Derived.Stop.ErrReads
namespace Go.Proofs.YtpkiopijfhkagaaGreatDoor.laid
open Go.ChangeShapes Go.WideShapes Go.ChangeAt Go.RowKit Go.Proofs.YtpkiopijfhkagaaGreatDoor.rd

abbrev theLaid {H : Type} : List (String × DataW H) := [("barbican/wire.errUnread", Rows.laid_barbican_wire_errUnread)]

theorem door_met (os : Os) (args : Array Value) : laidMetH Tryz.prog theLaid ((World.doorLaid Tryz.prog 28 os).forCall (fun _ _ => 0) ⟨#[], args, []⟩).memory :=
  laidMetH_of_parts3 (fuel := 8) (laidMet_of_run' 8 (by kernel_rfl) (by kernel_rfl)) (by kernel_rfl) (by kernel_rfl)

theorem gErr : Tryz.prog.globalNamed "barbican/wire.errUnread" = some 0 := by kernel_rfl

theorem tErr : (Tryz.prog.globals[0]?).map (·.type) = some 189 := by kernel_rfl
theorem star : "*" ++ "errors.errorString" = "*errors.errorString" := by decide
theorem row (u : TypeId) (h : Tryz.prog.typeName? 3 u = some "*errors.errorString") : u = 190 :=
  typeName_ptr_named (nm := "errors.errorString") (by rw [star]; kernel_rfl) (by kernel_rfl) (by decide) u (by rw [star]; exact h)
theorem cellsE : Tryz.prog.cellsOf 206 = 1 := by kernel_rfl
theorem cellsS : Tryz.prog.cellsOf 9 = 1 := by kernel_rfl

set_option maxRecDepth 100000 in
theorem of_laid {W : World} (h : laidMetH Tryz.prog theLaid W) : ∃ T q, ErrAt W T q := by
  rw [MakeChecks.laidMetH_plain _ _ _ (by kernel_rfl)] at h
  obtain ⟨ps, ⟨g0, t0, cs0, f0, p0, q0, hg0, ht0, hv0, hd0, hq0, e0⟩, hnd, hrows⟩ := h
  obtain rfl := Option.some.inj (gErr.symm.trans hg0)
  obtain rfl := Option.some.inj (tErr.symm.trans ht0)
  have hq0' : q0 = [] := hq0
  subst hq0'
  subst e0
  obtain ⟨l0⟩ := cs0
  have ok0 : ∀ u v, l0 = [.iface u v] → Value.okWide Tryz.prog W .any 0 u v := fun u v e => by
    subst e
    exact (hrows 0 0 (by simp [MemPlace.row])).2 u v (by simpa using World.var?_cell hg0 hv0 0)
  obtain ⟨a0, s0, rfl, hc0, hs0, hz0, rfl⟩ := errorString_of_trod Tryz.underlying189 row Tryz.underlying190 Tryz.underlying206 rfl rfl Tryz.underlying9 cellsE cellsS hd0 ok0
  exact ⟨_, a0, by simpa [ErrAt] using World.var?_cell hg0 hv0 0⟩

end Go.Proofs.YtpkiopijfhkagaaGreatDoor.laid
