/-
  What the condition on sha's two variables gives a walk.
-/
import Derived.Test.YtnmjgbkifglleaaDoorRows
import Derived.Test.YtnmjgbkifglleaaDoorShaG
import Derived.ProofKit
import Derived.LaidMore
import Derived.LaidLaws
import Derived.LaidHandle
import Derived.OpenShut
import Derived.Stop.Joined
namespace Go.Proofs.YtnmjgbkifglleaaDoor.laidS
open Go.ChangeShapes Go.WideShapes Go.ChangeAt Go.RowKit Go.Proofs.YtnmjgbkifglleaaDoor.sha Go.Proofs.YtnmjgbkifglleaaDoor.mem
set_option linter.unusedVariables false

abbrev theLaid {H : Type} : List (String × DataW H) := [("barbican/sha.start", Rows.laid_barbican_sha_start), ("barbican/sha.constants", Rows.laid_barbican_sha_constants)]

theorem cells1 : Tryd.prog.cellsOf 36 = 1 := by kernel_rfl
theorem array_cells {H : Type} {enc : TypeId × Value → H} {w : World} {base fuel n : Nat} {spare : Nat → Bool} {held : Bool} {t : TypeId} {cs : List Value} {q : List MemPlace} (ns : List Nat) (hn : ns.length = n) (ht : Tryd.prog.underlying t = some (.array n 36))
    (h : DataW.trod enc Tryd.prog w base spare held fuel t cs = some (.agg (ns.map fun (z : Nat) => .lit (.int .u32 (z : Int))), q)) : ∀ i (hi : i < ns.length), cs[i]? = some (.int .u32 (ns[i] : Int)) := by
  obtain ⟨xs, m, rfl, hx, hl, hxl, he⟩ := DataW.trod_array ht h
  simp only [Prod.mk.injEq, DataW.agg.injEq] at hx
  intro i hi
  have hxi : i < xs.length := by omega
  have h1 := he i (by omega)
  rw [cells1, Nat.mul_one, List.getElem?_eq_getElem hxi] at h1
  have hd : (xs[i]).1 = .lit (.int .u32 (ns[i] : Int)) := by
    have e := congrArg (fun l => l[i]?) hx.1
    simp only [List.getElem?_map, List.getElem?_eq_getElem hi, List.getElem?_eq_getElem hxi, Option.map_some, Option.some.injEq] at e
    exact e.symm
  obtain ⟨a, e0, e1, -⟩ := DataW.trod_int Tryd.underlying36 h1
  rw [e1] at hd
  simp only [DataW.lit.injEq, Lit.int.injEq, true_and] at hd
  rw [hd] at e0
  have e2 := congrArg (fun l => l[0]?) e0
  simp only [List.getElem?_take, List.getElem?_drop, Nat.add_zero] at e2
  simpa using e2

theorem door_met (os : Os) (args : Array Value) : laidMetH Tryd.prog theLaid ((World.doorLaid Tryd.prog 19 os).forCall (fun _ _ => 0) ⟨#[], args, []⟩).memory :=
  laidMetH_of_parts3 (fuel := 8) (laidMet_of_run' 8 (by kernel_rfl) (by kernel_rfl)) (by kernel_rfl) (by kernel_rfl)
theorem gS : Tryd.prog.globalNamed "barbican/sha.start" = some 0 := by kernel_rfl
theorem gK : Tryd.prog.globalNamed "barbican/sha.constants" = some 1 := by kernel_rfl
theorem tS : (Tryd.prog.globals[0]?).map (·.type) = some 37 := by kernel_rfl
theorem tK : (Tryd.prog.globals[1]?).map (·.type) = some 79 := by kernel_rfl

set_option maxRecDepth 100000 in
theorem of_laid {W : World} (h : laidMetH Tryd.prog theLaid W) : GAt W := by
  rw [MakeChecks.laidMetH_plain _ _ _ (by kernel_rfl)] at h
  obtain ⟨ps, ⟨g0, t0, cs0, f0, p0, q0, hg0, ht0, hv0, hd0, ⟨g1, t1, cs1, f1, p1, q1, hg1, ht1, hv1, hd1, hq1, e1⟩, e0⟩, hnd, hrows⟩ := h
  obtain rfl := Option.some.inj (gS.symm.trans hg0)
  obtain rfl := Option.some.inj (tS.symm.trans ht0)
  obtain rfl := Option.some.inj (gK.symm.trans hg1)
  obtain rfl := Option.some.inj (tK.symm.trans ht1)
  have a0 := array_cells Go.Proofs.YtnmjgbkifglleaaDoor.sha.start.list (n := 8) rfl Tryd.underlying37 hd0
  have a1 := array_cells Go.Proofs.YtnmjgbkifglleaaDoor.sha.consts (n := 64) rfl Tryd.underlying79 hd1
  refine ⟨fun i hi => ?_, fun i hi => ?_⟩
  · rw [World.var?_cell hg0 hv0 i, ← a0 i hi]
    simp
  · rw [World.var?_cell hg1 hv1 i, ← a1 i hi]
    simp
end Go.Proofs.YtnmjgbkifglleaaDoor.laidS
