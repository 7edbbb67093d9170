/-
  What the condition on the listed variables gives a walk of text's; the form's builder with the world's shape kept.
-/
import Derived.Test.YtddojdgnakajmaaGreatDoorRows
import Derived.Test.YtddojdgnakajmaaGreatDoorTZI
import Derived.ProofKit
import Derived.LaidMore
import Derived.LaidLaws
import Derived.LaidHandle
import Derived.OpenShut
import Derived.Stop.Joined
import Derived.Stop.ErrReads
import Derived.HandedShaped
import Derived.Shelf.Vars
import Derived.Lay
namespace Go.Proofs.YtddojdgnakajmaaGreatDoor.laidT
open Go.ChangeShapes Go.WideShapes Go.ChangeAt Go.RowKit Go.Proofs.YtddojdgnakajmaaGreatDoor.mem Go.Proofs.YtddojdgnakajmaaGreatDoor.txt
set_option linter.unusedVariables false

/-- The form's builder: a condition on the listed variables, and the world's shape. -/
theorem both {H : Type} {enc : TypeId × Value → H} {a : Assume} {C : Checked} {os : Os} {f : FuncId} {fn : Func} {s : ChangeSpec} {conds : List PathCond} {apart fresh handsOn again : Bool} {X : World → Array Value → Prop}
    (hX : ∀ (w w' : World) (args : Array Value), w.heap = w'.heap → X w args → X w' args)
    (own : ownKnob C.prog.godebug = none) (started : os.Started) (noInit : C.prog.inits.idxOf? f = none) (hfn : C.prog.funcs[f]? = some fn)
    (witness : ∃ (w : World) (tape : Tape) (i : Input), w.os = os ∧ (w.forCall tape i).Shaped C.prog ∧ i.vars = [] ∧ Input.okWide C.prog (w.forCall tape i) .any w.heap.size f i ∧
      ((s.pre enc C.prog fn conds apart (w.forCall tape i).memory i.args ∧ X (w.forCall tape i).memory i.args) ∧ sizedMet enc C.prog fn (OpenSpec.ofChange s) apart (w.forCall tape i).memory i.args) ∧ a.holds C.prog (lone (Frame.enter C.prog f i.args .normal) [] (w.forCall tape i)))
    (contract : ∀ (W : World) (base : Nat) (args : Array Value) (ds gs : List (DataW H)) (before : List MemPlace),
      (∀ (j : Nat) t v, fn.params[j]? = some t → args[j]? = some v → Value.okWide C.prog W .any base t v) →
      DataW.Whole enc C.prog fn.params.toList s.vars apart W args.toList ds gs before →
      conds.all (PathCond.test C.prog ⟨fn.params.toList, ds, s.plain.varTypes C.prog, gs⟩) = true →
      (DataW.weightsEach C.prog (fn.params.toList ++ s.plain.varTypes C.prog) (ds ++ gs)).all (· ≤ reachBytes) = true → X W args → W.ShapedOpen C.prog →
      Calls C.prog f args W fun e W' => ∃ v, e = .returned v ∧ s.post enc C.prog fn apart fresh handsOn again W args v W') :
    ReturnsInHanded a C os f .any (fun w args => (s.pre enc C.prog fn conds apart w args ∧ X w args) ∧ sizedMet enc C.prog fn (OpenSpec.ofChange s) apart w args) (s.post enc C.prog fn apart fresh handsOn again) := by
  refine returnsInHanded_of_calls own started noInit witness ?_
  intro w tape i _ hsh _ hok hpre hholds
  obtain ⟨_, _, _, fn', hfn', _, _, _, _, hval⟩ := hok
  have e : fn' = fn := Option.some.inj (hfn'.symm.trans hfn)
  subst e
  obtain ⟨⟨⟨ds, gs, before, hw, hc⟩, hx⟩, hz⟩ := hpre
  have hw' := DataW.Whole.of_heap (w' := w.forCall tape i) (by rfl) hw
  refine (contract (w.forCall tape i) w.heap.size i.args ds gs before hval hw' hc (hz.weights hw) (hX _ _ _ (by rfl) hx) hsh).mono fun e W' ⟨v, he, hp⟩ => ?_
  subst he
  exact ChangeSpec.post_blind hp

/-- One listed variable's reading, and its cells among the places. -/
def Var (P : Program) (w : World) (n : String) (d : DataW Unit) (ps : List MemPlace) : Prop :=
  ∃ g t cs fuel p, P.globalNamed n = some g ∧ (P.globals[g]?).map (·.type) = some t ∧ w.var? P n = some cs ∧ DataW.trod (fun _ => ()) P w 0 (fun _ => true) false fuel t cs.toList = some (d, p) ∧ ∀ j, j < cs.size → MemPlace.cell g j ∈ ps
theorem row_in {g n j : Nat} (h : j < n) : MemPlace.cell g j ∈ MemPlace.row ⟨g, 0, none⟩ n := by
  simp [MemPlace.row, h]
theorem var_of {P : Program} {w : World} : ∀ {l : List (String × DataW Unit)} {ps : List MemPlace}, DataW.LaidVars P w l ps → ∀ n d, (n, d) ∈ l → Var P w n d ps
  | [], _, _, _, _, hm => by cases hm
  | (n', d') :: r, ps, h, n, d, hm => by
    obtain ⟨g, t, cs, fuel, p, q, h1, h2, h3, h4, h5, rfl⟩ := h
    rcases List.mem_cons.1 hm with e | e
    · cases e
      exact ⟨g, t, cs, fuel, p, h1, h2, h3, h4, fun j hj => List.mem_append_left _ (List.mem_append_left _ (row_in hj))⟩
    · obtain ⟨g', t', cs', fuel', p', k1, k2, k3, k4, k5⟩ := var_of h5 n d e
      exact ⟨g', t', cs', fuel', p', k1, k2, k3, k4, fun j hj => List.mem_append_right _ (k5 j hj)⟩

theorem gErr : Tryz.prog.globalNamed "barbican/text.errSays" = some 5 := by kernel_rfl
theorem tErr : (Tryz.prog.globals[5]?).map (·.type) = some 83 := by kernel_rfl
theorem gNam : Tryz.prog.globalNamed "barbican/text.names" = some 0 := by kernel_rfl
theorem tNam : (Tryz.prog.globals[0]?).map (·.type) = some 169 := by kernel_rfl
theorem gPow : Tryz.prog.globalNamed "internal/strconv.uint64pow10" = some 6 := by kernel_rfl
theorem tPow : (Tryz.prog.globals[6]?).map (·.type) = some 319 := by kernel_rfl
theorem star : "*" ++ "errors.errorString" = "*errors.errorString" := by decide
theorem row (u : TypeId) (h : Tryz.prog.typeName? 3 u = some "*errors.errorString") : u = 327 :=
  typeName_ptr_named (nm := "errors.errorString") (by rw [star]; kernel_rfl) (by kernel_rfl) (by decide) u (by rw [star]; exact h)
theorem cellsE : Tryz.prog.cellsOf 341 = 1 := by kernel_rfl
theorem cellsS : Tryz.prog.cellsOf 9 = 1 := by kernel_rfl
theorem pow_eq : (Rows.laid_internal_strconv_uint64pow10 : DataW Unit) = Lib.tabData .u64 Lib.pow10Tab := by rfl
def names29 : List Bs := (List.range 29).map nameB
theorem nam_eq : (Rows.laid_barbican_text_names : DataW Unit) = .agg (names29.map fun b => .lit (.string b)) := by rfl

theorem strs_cells {w : World} {fuel n : Nat} {t : TypeId} {cs : List Value} {q : List MemPlace} (ns : List Bs) (hn : ns.length = n) (ht : Tryz.prog.underlying t = some (.array n 9))
    (h : DataW.trod (fun _ => ()) Tryz.prog w 0 (fun _ => true) false fuel t cs = some (.agg (ns.map fun b => .lit (.string b)), q)) : ∀ i (hi : i < ns.length), cs[i]? = some (sv ns[i]) := by
  obtain ⟨xs, m, rfl, hx, hl, hxl, he⟩ := DataW.trod_array ht h
  simp only [Prod.mk.injEq, DataW.agg.injEq] at hx
  intro i hi
  have hxi : i < xs.length := by omega
  have h1 := he i (by omega)
  rw [cellsS, Nat.mul_one, List.getElem?_eq_getElem hxi] at h1
  have hd : (xs[i]).1 = .lit (.string ns[i]) := by
    have e := congrArg (fun l => l[i]?) hx.1
    simp only [List.getElem?_map, List.getElem?_eq_getElem hi, List.getElem?_eq_getElem hxi, Option.map_some, Option.some.injEq] at e
    exact e.symm
  obtain ⟨s, e0, e1, -⟩ := DataW.trod_string Tryz.underlying9 h1
  rw [e1] at hd
  simp only [DataW.lit.injEq, Lit.string.injEq] at hd
  have e2 := congrArg (fun l => l[0]?) e0
  simp only [List.getElem?_take, List.getElem?_drop, Nat.add_zero] at e2
  have e3 : s = ⟨(ns[i]).toArray⟩ := by rw [← hd]
  have e4 : cs[i]? = some (.string s) := by simpa using e2
  rw [e4, e3]

theorem cellsP : Tryz.prog.cellsOf 319 = 20 := by kernel_rfl
theorem cells64 : Tryz.prog.cellsOf 161 = 1 := by kernel_rfl
theorem max_of {W : World} (h : W.ShapedOpen Tryz.prog) : MaxT W :=
  cell_of_shapedOpen_int (zero := #[.int .i64 0]) (t := 3) h (of_decide_eq_true (by kernel_rfl)) (by kernel_rfl) rfl (by kernel_rfl) (by kernel_rfl) Tryz.underlying3

set_option maxRecDepth 100000 in
theorem of_laid {W : World} {l : List (String × DataW Unit)} (h0 : laidMetH Tryz.prog l W) (hp : (l.all fun x => x.2.handleName?.isNone) = true) (hs : W.ShapedOpen Tryz.prog)
    (m1 : ("internal/strconv.uint64pow10", Rows.laid_internal_strconv_uint64pow10) ∈ l) (m2 : ("barbican/text.errSays", Rows.laid_barbican_text_errSays) ∈ l) (m3 : ("barbican/text.names", Rows.laid_barbican_text_names) ∈ l) : ∃ T q, TW W T q := by
  rw [MakeChecks.laidMetH_plain _ _ _ hp] at h0
  obtain ⟨ps, hv, hnd, hrows⟩ := h0
  obtain ⟨g1, t1, cs1, f1, p1, a1, b1, c1, d1, -⟩ := var_of hv _ _ m1
  obtain ⟨g2, t2, cs2, f2, p2, a2, b2, c2, d2, e2⟩ := var_of hv _ _ m2
  obtain ⟨g3, t3, cs3, f3, p3, a3, b3, c3, d3, -⟩ := var_of hv _ _ m3
  obtain rfl := Option.some.inj (gPow.symm.trans a1)
  obtain rfl := Option.some.inj (tPow.symm.trans b1)
  obtain rfl := Option.some.inj (gErr.symm.trans a2)
  obtain rfl := Option.some.inj (tErr.symm.trans b2)
  obtain rfl := Option.some.inj (gNam.symm.trans a3)
  obtain rfl := Option.some.inj (tNam.symm.trans b3)
  have hP : PowT W := by
    rw [pow_eq] at d1
    have := Lib.cells_of_tab Tryz.underlying319 Tryz.underlying161 cells64 cellsP d1
    unfold PowT Lib.TabIs
    rw [c1, ← this]
  have hN : NamesAt W := fun j hj => by
    rw [nam_eq] at d3
    have hl : j < names29.length := hj
    have := strs_cells names29 (n := 29) rfl Tryz.underlying169 d3 j hl
    rw [World.var?_cell a3 c3 j, ← Array.getElem?_toList, this]
    simp [names29]
  obtain ⟨l0⟩ := cs2
  have ok0 : ∀ u v, l0 = [.iface u v] → Value.okWide Tryz.prog W .any 0 u v := fun u v e => by
    subst e
    exact (hrows 5 0 (e2 0 (by simp))).2 u v (by simpa using World.var?_cell a2 c2 0)
  obtain ⟨q0, s0, rfl, hc0, hs0, hz0, rfl⟩ := errorString_of_trod Tryz.underlying83 row Tryz.underlying327 Tryz.underlying341 rfl rfl Tryz.underlying9 cellsE cellsS d2 ok0
  exact ⟨_, q0, max_of hs, by simpa [ErrT] using World.var?_cell a2 c2 0, hN, hP⟩

end Go.Proofs.YtddojdgnakajmaaGreatDoor.laidT
