/-
  What the condition on packet's table gives a walk.
-/
import Derived.Test.YtgddfclclibcgaaDoorRows
import Derived.Test.YtgddfclclibcgaaDoorPkA
import Derived.ProofKit
import Derived.LaidMore
import Derived.LaidLaws
import Derived.LaidHandle
import Derived.OpenShut
import Derived.Stop.Joined
import Derived.Lib.LaidTab
namespace Go.Proofs.YtgddfclclibcgaaDoor.laidP
open Go.ChangeShapes Go.WideShapes Go.ChangeAt Go.RowKit Go.Proofs.YtgddfclclibcgaaDoor.pk Go.Proofs.YtgddfclclibcgaaDoor.mem
set_option linter.unusedVariables false

abbrev theLaid {H : Type} : List (String × DataW H) := [("barbican/packet.sizes", Rows.laid_barbican_packet_sizes)]
theorem door_met (os : Os) (args : Array Value) : laidMetH Tryd.prog theLaid ((World.doorLaid Tryd.prog 14 os).forCall (fun _ _ => 0) ⟨#[], args, []⟩).memory :=
  laidMetH_of_parts3 (fuel := 8) (laidMet_of_run' 8 (by kernel_rfl) (by kernel_rfl)) (by kernel_rfl) (by kernel_rfl)
theorem gS : Tryd.prog.globalNamed "barbican/packet.sizes" = some 0 := by kernel_rfl
theorem tS : (Tryd.prog.globals[0]?).map (·.type) = some 49 := by kernel_rfl
theorem cellsI : Tryd.prog.cellsOf 3 = 1 := by kernel_rfl
theorem cellsA : Tryd.prog.cellsOf 49 = 4 := by kernel_rfl
theorem tab_eq {H : Type} : (Rows.laid_barbican_packet_sizes : DataW H) = Lib.tabData .i64 [1, 2, 4, 8] := by rfl

set_option maxRecDepth 100000 in
theorem of_laid {W : World} (h : laidMetH Tryd.prog theLaid W) : SzT W := by
  rw [MakeChecks.laidMetH_plain _ _ _ (by kernel_rfl)] at h
  obtain ⟨ps, ⟨g0, t0, cs0, f0, p0, q0, hg0, ht0, hv0, hd0, e0⟩, hnd, hrows⟩ := h
  obtain rfl := Option.some.inj (gS.symm.trans hg0)
  obtain rfl := Option.some.inj (tS.symm.trans ht0)
  rw [tab_eq] at hd0
  have hc := Lib.cells_of_tab Tryd.underlying49 Tryd.underlying3 cellsI cellsA hd0
  unfold World.var? at hv0
  rw [gS] at hv0
  simp only [Option.bind_some] at hv0
  split at hv0
  · rename_i cs t fr hh
    injection hv0 with hv0
    subst hv0
    refine ⟨t, fr, ?_⟩
    rw [hh]
    have e : cs = #[.int .i64 1, .int .i64 2, .int .i64 4, .int .i64 8] := by
      apply Array.toList_inj.1
      exact hc
    rw [e]
  · cases hv0
end Go.Proofs.YtgddfclclibcgaaDoor.laidP
