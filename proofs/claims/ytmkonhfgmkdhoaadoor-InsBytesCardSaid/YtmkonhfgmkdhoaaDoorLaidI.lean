/-
  What the condition on math/bits' tables gives a walk.
-/
import Derived.Test.YtmkonhfgmkdhoaaDoorRows
import Derived.Test.YtmkonhfgmkdhoaaDoorInsG
import Derived.ProofKit
import Derived.LaidMore
import Derived.LaidLaws
import Derived.LaidHandle
import Derived.OpenShut
import Derived.Stop.Joined
namespace Go.Proofs.YtmkonhfgmkdhoaaDoor.laidI
open Go.ChangeShapes Go.WideShapes Go.ChangeAt Go.RowKit Go.Proofs.YtmkonhfgmkdhoaaDoor.ins Go.Proofs.YtmkonhfgmkdhoaaDoor.mem
set_option linter.unusedVariables false

abbrev theLaid {H : Type} : List (String × DataW H) := [("math/bits.deBruijn32tab", Rows.laid_math_bits_deBruijn32tab), ("math/bits.deBruijn64tab", Rows.laid_math_bits_deBruijn64tab)]
def tab64 : List Nat := [0, 1, 56, 2, 57, 49, 28, 3, 61, 58, 42, 50, 38, 29, 17, 4, 62, 47, 59, 36, 45, 43, 51, 22, 53, 39, 33, 30, 24, 18, 12, 5, 63, 55, 48, 27, 60, 41, 37, 16, 46, 35, 44, 21, 52, 32, 23, 11, 54, 26, 40, 15, 34, 20, 31, 10, 25, 14, 19, 9, 13, 8, 7, 6]

theorem cells1 : Tryd.prog.cellsOf 5 = 1 := by kernel_rfl
theorem array_cells {H : Type} {enc : TypeId × Value → H} {w : World} {base fuel n : Nat} {spare : Nat → Bool} {held : Bool} {t : TypeId} {cs : List Value} {q : List MemPlace} (ns : List Nat) (hn : ns.length = n) (ht : Tryd.prog.underlying t = some (.array n 5))
    (h : DataW.trod enc Tryd.prog w base spare held fuel t cs = some (.agg (ns.map fun (z : Nat) => .lit (.int .u8 (z : Int))), q)) : ∀ i (hi : i < ns.length), cs[i]? = some (.int .u8 (ns[i] : Int)) := by
  obtain ⟨xs, m, rfl, hx, hl, hxl, he⟩ := DataW.trod_array ht h
  simp only [Prod.mk.injEq, DataW.agg.injEq] at hx
  intro i hi
  have hxi : i < xs.length := by omega
  have h1 := he i (by omega)
  rw [cells1, Nat.mul_one, List.getElem?_eq_getElem hxi] at h1
  have hd : (xs[i]).1 = .lit (.int .u8 (ns[i] : Int)) := by
    have e := congrArg (fun l => l[i]?) hx.1
    simp only [List.getElem?_map, List.getElem?_eq_getElem hi, List.getElem?_eq_getElem hxi, Option.map_some, Option.some.injEq] at e
    exact e.symm
  obtain ⟨a, e0, e1, -⟩ := DataW.trod_int Tryd.underlying5 h1
  rw [e1] at hd
  simp only [DataW.lit.injEq, Lit.int.injEq, true_and] at hd
  rw [hd] at e0
  have e2 := congrArg (fun l => l[0]?) e0
  simp only [List.getElem?_take, List.getElem?_drop, Nat.add_zero] at e2
  simpa using e2

theorem door_met (os : Os) (args : Array Value) : laidMetH Tryd.prog theLaid ((World.doorLaid Tryd.prog 19 os).forCall (fun _ _ => 0) ⟨#[], args, []⟩).memory :=
  laidMetH_of_parts3 (fuel := 8) (laidMet_of_run' 8 (by kernel_rfl) (by kernel_rfl)) (by kernel_rfl) (by kernel_rfl)
theorem gS : Tryd.prog.globalNamed "math/bits.deBruijn32tab" = some 0 := by kernel_rfl
theorem gK : Tryd.prog.globalNamed "math/bits.deBruijn64tab" = some 1 := by kernel_rfl
theorem tK : (Tryd.prog.globals[1]?).map (·.type) = some 68 := by kernel_rfl

set_option maxRecDepth 100000 in
theorem of_laid {W : World} (h : laidMetH Tryd.prog theLaid W) : TAt W := by
  rw [MakeChecks.laidMetH_plain _ _ _ (by kernel_rfl)] at h
  obtain ⟨ps, ⟨g0, t0, cs0, f0, p0, q0, hg0, ht0, hv0, hd0, ⟨g1, t1, cs1, f1, p1, q1, hg1, ht1, hv1, hd1, hq1, e1⟩, e0⟩, hnd, hrows⟩ := h
  obtain rfl := Option.some.inj (gK.symm.trans hg1)
  obtain rfl := Option.some.inj (tK.symm.trans ht1)
  have a1 := array_cells tab64 (n := 64) rfl Tryd.underlying68 hd1
  refine ⟨?_, ?_, ?_, ?_⟩
  · rw [World.var?_cell hg1 hv1 0, List.getElem?_toArray, a1 0 (by decide)]; rfl
  · rw [World.var?_cell hg1 hv1 1, List.getElem?_toArray, a1 1 (by decide)]; rfl
  · rw [World.var?_cell hg1 hv1 3, List.getElem?_toArray, a1 3 (by decide)]; rfl
  · rw [World.var?_cell hg1 hv1 7, List.getElem?_toArray, a1 7 (by decide)]; rfl
end Go.Proofs.YtmkonhfgmkdhoaaDoor.laidI
