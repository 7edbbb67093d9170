/-
  Contracts of wire's reader: its calls.
-/
import Derived.Test.YtpkiopijfhkagaaDoorReadB
import Derived.Defers
import Derived.Recover
import Derived.Lib.Builder
namespace Go.Proofs.YtpkiopijfhkagaaDoor.rd
open Go.RowKit Go.Proofs.YtpkiopijfhkagaaDoor.mem Go.Proofs.YtpkiopijfhkagaaDoor.kit Go.Proofs.YtpkiopijfhkagaaDoor.wire
set_option linter.unusedVariables false

/-- A reader that is bad: nobody made it, or it turned so. -/
def Zero (w : World) (g : Nat) : Prop := Blk w g 66 #[.slice none 0 0, .pointer none]

theorem bad_nil (w : World) : Calls Tryd.prog 24 #[.pointer none] w fun e w' => e = .returned (.bool true) ∧ w = w' := by
  go_enter Tryd.func24, Tryd.ntmps24
  go_wp2
  go_ret
  exact ⟨rfl, rfl⟩

theorem info_reader : ∃ j, Tryd.prog.info? 66 = some j := by
  have h : (Tryd.prog.info? 66).isSome = true := by kernel_rfl
  exact Option.isSome_iff_exists.1 h
theorem neq_none (a : Addr) (w : World) : (binOp .neq 26 (.pointer none) (.pointer (some a))).run Tryd.prog w = .ok (.bool true) w := by
  kernel_rfl

set_option maxRecDepth 100000 in
theorem bad_zero (g : Nat) (w : World) (h : Zero w g) : Calls Tryd.prog 24 #[.pointer (some ⟨g, 0, none⟩)] w fun e w' => e = .returned (.bool true) ∧ w = w' := by
  have c1 := h.cell 1
  simp only [List.getElem?_toArray, List.getElem?_cons_zero, List.getElem?_cons_succ] at c1
  have hq := neq_none
  go_enter Tryd.func24, Tryd.ntmps24
  go_wp2
  go_ret
  exact ⟨rfl, rfl⟩

set_option maxRecDepth 100000 in
theorem bad_good (g : Nat) (l : List UInt8) (w : World) (h : Good w g l) : Calls Tryd.prog 24 #[.pointer (some ⟨g, 0, none⟩)] w fun e w' => e = .returned (.bool false) ∧ w = w' := by
  obtain ⟨A, c, hb, _⟩ := h
  have c1 := hb.cell 1
  simp only [List.getElem?_toArray, List.getElem?_cons_zero, List.getElem?_cons_succ] at c1
  obtain ⟨j, hj⟩ := info_reader
  have hq := fun W a => Lib.run_neq_ptr_same (P := Tryd.prog) (w := W) a Tryd.underlying26 hj
  go_enter Tryd.func24, Tryd.ntmps24
  go_wp2
  go_ret
  exact ⟨rfl, rfl⟩

theorem none_any (g : Nat) (l : List UInt8) (w : World) (h : Good w g l) : Calls Tryd.prog 57 #[.pointer (some ⟨g, 0, none⟩)] w fun e w' => e = .returned (.bool (decide (l = []))) ∧ w = w' := by
  obtain ⟨A, c, hb, _⟩ := h
  have c0 := hb.cell 0
  simp only [List.getElem?_toArray, List.getElem?_cons_zero] at c0
  have e : ((l.length : Int) == 0) = decide (l = []) := by cases l <;> simp; omega
  have E := Lib.hid e
  clear e
  go_enter Tryd.func57, Tryd.ntmps57
  go_wp2
  go_ret
  exact ⟨by rw [← E.out]; simp, rfl⟩

theorem done_nil (w : World) : Calls Tryd.prog 26 #[.pointer none] w fun e w' => e = .returned (.bool false) ∧ w = w' := by
  go_enter Tryd.func26, Tryd.ntmps26
  go_wp2_with (go_at_call 24; refine (bad_nil _).mono ?_; rintro e w1 ⟨rfl, rfl⟩)
  go_ret
  exact ⟨rfl, rfl⟩
theorem done_zero (g : Nat) (w : World) (h : Zero w g) : Calls Tryd.prog 26 #[.pointer (some ⟨g, 0, none⟩)] w fun e w' => e = .returned (.bool false) ∧ w = w' := by
  go_enter Tryd.func26, Tryd.ntmps26
  go_wp2_with (go_at_call 24; refine (bad_zero _ _ h).mono ?_; rintro e w1 ⟨rfl, rfl⟩)
  go_ret
  exact ⟨rfl, rfl⟩
theorem done_good (g : Nat) (l : List UInt8) (w : World) (h : Good w g l) : Calls Tryd.prog 26 #[.pointer (some ⟨g, 0, none⟩)] w fun e w' => e = .returned (.bool (decide (l = []))) ∧ w = w' := by
  go_enter Tryd.func26, Tryd.ntmps26
  go_wp2_with (first
    | (go_at_call 24; refine (bad_good _ _ _ h).mono ?_; rintro e w1 ⟨rfl, rfl⟩)
    | (go_at_call 57; refine (none_any _ _ _ h).mono ?_; rintro e w2 ⟨rfl, rfl⟩))
  go_ret
  exact ⟨by simp, rfl⟩

theorem catchI_panicking (b g : Nat) (u : TypeId) (pv x y : Value) (older : List PanicEntry) (w : World) (hb : w.cell? ⟨b, 0, none⟩ = some (.pointer (some ⟨g, 0, none⟩))) (hg : Blk w g 66 #[x, y]) :
    CallsD Tryd.prog 79 #[.pointer (some ⟨b, 0, none⟩)] (.panicking ({ v := .iface u pv, recovered := false } :: older)) w fun e u' w' =>
      e = .returned (.tuple #[]) ∧ u' = .panicking ({ v := .iface u pv, recovered := true } :: older) ∧ w' = w.setRow g #[.slice none 0 0, .pointer none] := by
  refine callsD_of_wpS Tryd.func79 rfl fun c₀ cs hu => ?_
  apply wpS_seq
  apply wpS_region
  simp [wpOpsS, go_sem, recoverD, hu, Tryd.ntmps79, Exit.thenS]
  refine wpS_cond (t := true) (by simp [Act.eval, Array.replicate]) ?_
  simp only [if_true]
  have ea : (#[Value.pointer (some ⟨b, 0, none⟩)] ++ ((Array.replicate 5 undef).setIfInBounds 0 (Value.iface u pv)).setIfInBounds 1 (Value.bool true) : Array Value) = #[.pointer (some ⟨b, 0, none⟩), .iface u pv, .bool true, undef, undef, undef] := rfl
  rw [ea]
  clear ea
  refine wpS_of_wp ?_
  have ei : (Tryd.prog.info? 66).map (·.size) = some 2 := by kernel_rfl
  have HG := Lib.hid hg
  clear hg
  go_wp2_with (refine wpList_store_row rfl 66 _ _ rfl g #[.slice none 0 0, .pointer none] rfl rfl 66 _ HG.out ei rfl (by simp [Value.oneCell']) ?_)
  simp [bodyPostS, results, Tryd.results79]

theorem catchI_idle (p : Addr) (w : World) :
    CallsD Tryd.prog 79 #[.pointer (some p)] .returning w fun e u' w' => e = .returned (.tuple #[]) ∧ u' = .returning ∧ w' = w := by
  refine callsD_of_wpS Tryd.func79 rfl fun c₀ cs hu => ?_
  apply wpS_seq
  apply wpS_region
  simp [wpOpsS, go_sem, recoverD, hu, Tryd.ntmps79, Exit.thenS]
  refine wpS_cond (t := false) (by simp [Act.eval, Array.replicate]) ?_
  simp only [Bool.false_eq_true, if_false]
  refine wpS_of_wp (wp_skip ?_)
  cases c₀
  simp_all [bodyPostS, results, Tryd.results79]

theorem catchB_panicking (b g : Nat) (u : TypeId) (pv x y : Value) (older : List PanicEntry) (w : World) (hb : w.cell? ⟨b, 0, none⟩ = some (.pointer (some ⟨g, 0, none⟩))) (hg : Blk w g 66 #[x, y]) :
    CallsD Tryd.prog 81 #[.pointer (some ⟨b, 0, none⟩)] (.panicking ({ v := .iface u pv, recovered := false } :: older)) w fun e u' w' =>
      e = .returned (.tuple #[]) ∧ u' = .panicking ({ v := .iface u pv, recovered := true } :: older) ∧ w' = w.setRow g #[.slice none 0 0, .pointer none] := by
  refine callsD_of_wpS Tryd.func81 rfl fun c₀ cs hu => ?_
  apply wpS_seq
  apply wpS_region
  simp [wpOpsS, go_sem, recoverD, hu, Tryd.ntmps81, Exit.thenS]
  refine wpS_cond (t := true) (by simp [Act.eval, Array.replicate]) ?_
  simp only [if_true]
  have ea : (#[Value.pointer (some ⟨b, 0, none⟩)] ++ ((Array.replicate 5 undef).setIfInBounds 0 (Value.iface u pv)).setIfInBounds 1 (Value.bool true) : Array Value) = #[.pointer (some ⟨b, 0, none⟩), .iface u pv, .bool true, undef, undef, undef] := rfl
  rw [ea]
  clear ea
  refine wpS_of_wp ?_
  have ei : (Tryd.prog.info? 66).map (·.size) = some 2 := by kernel_rfl
  have HG := Lib.hid hg
  clear hg
  go_wp2_with (refine wpList_store_row rfl 66 _ _ rfl g #[.slice none 0 0, .pointer none] rfl rfl 66 _ HG.out ei rfl (by simp [Value.oneCell']) ?_)
  simp [bodyPostS, results, Tryd.results81]

theorem catchB_idle (p : Addr) (w : World) :
    CallsD Tryd.prog 81 #[.pointer (some p)] .returning w fun e u' w' => e = .returned (.tuple #[]) ∧ u' = .returning ∧ w' = w := by
  refine callsD_of_wpS Tryd.func81 rfl fun c₀ cs hu => ?_
  apply wpS_seq
  apply wpS_region
  simp [wpOpsS, go_sem, recoverD, hu, Tryd.ntmps81, Exit.thenS]
  refine wpS_cond (t := false) (by simp [Act.eval, Array.replicate]) ?_
  simp only [Bool.false_eq_true, if_false]
  refine wpS_of_wp (wp_skip ?_)
  cases c₀
  simp_all [bodyPostS, results, Tryd.results81]

theorem catchE_panicking (b g : Nat) (u : TypeId) (pv x y : Value) (older : List PanicEntry) (w : World) (hb : w.cell? ⟨b, 0, none⟩ = some (.pointer (some ⟨g, 0, none⟩))) (hg : Blk w g 66 #[x, y]) :
    CallsD Tryd.prog 82 #[.pointer (some ⟨b, 0, none⟩)] (.panicking ({ v := .iface u pv, recovered := false } :: older)) w fun e u' w' =>
      e = .returned (.tuple #[]) ∧ u' = .panicking ({ v := .iface u pv, recovered := true } :: older) ∧ w' = w.setRow g #[.slice none 0 0, .pointer none] := by
  refine callsD_of_wpS Tryd.func82 rfl fun c₀ cs hu => ?_
  apply wpS_seq
  apply wpS_region
  simp [wpOpsS, go_sem, recoverD, hu, Tryd.ntmps82, Exit.thenS]
  refine wpS_cond (t := true) (by simp [Act.eval, Array.replicate]) ?_
  simp only [if_true]
  have ea : (#[Value.pointer (some ⟨b, 0, none⟩)] ++ ((Array.replicate 5 undef).setIfInBounds 0 (Value.iface u pv)).setIfInBounds 1 (Value.bool true) : Array Value) = #[.pointer (some ⟨b, 0, none⟩), .iface u pv, .bool true, undef, undef, undef] := rfl
  rw [ea]
  clear ea
  refine wpS_of_wp ?_
  have ei : (Tryd.prog.info? 66).map (·.size) = some 2 := by kernel_rfl
  have HG := Lib.hid hg
  clear hg
  go_wp2_with (refine wpList_store_row rfl 66 _ _ rfl g #[.slice none 0 0, .pointer none] rfl rfl 66 _ HG.out ei rfl (by simp [Value.oneCell']) ?_)
  simp [bodyPostS, results, Tryd.results82]

theorem catchE_idle (p : Addr) (w : World) :
    CallsD Tryd.prog 82 #[.pointer (some p)] .returning w fun e u' w' => e = .returned (.tuple #[]) ∧ u' = .returning ∧ w' = w := by
  refine callsD_of_wpS Tryd.func82 rfl fun c₀ cs hu => ?_
  apply wpS_seq
  apply wpS_region
  simp [wpOpsS, go_sem, recoverD, hu, Tryd.ntmps82, Exit.thenS]
  refine wpS_cond (t := false) (by simp [Act.eval, Array.replicate]) ?_
  simp only [Bool.false_eq_true, if_false]
  refine wpS_of_wp (wp_skip ?_)
  cases c₀
  simp_all [bodyPostS, results, Tryd.results82]

end Go.Proofs.YtpkiopijfhkagaaDoor.rd
