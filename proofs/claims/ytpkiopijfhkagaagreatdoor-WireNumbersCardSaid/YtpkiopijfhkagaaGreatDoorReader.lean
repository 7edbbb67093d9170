/-
  Contracts of wire's reader: its calls.
-/
import Derived.Test.YtpkiopijfhkagaaGreatDoorReadB
import Derived.Defers
import Derived.Recover
import Derived.Lib.Builder
namespace Go.Proofs.YtpkiopijfhkagaaGreatDoor.rd
open Go.RowKit Go.Proofs.YtpkiopijfhkagaaGreatDoor.mem Go.Proofs.YtpkiopijfhkagaaGreatDoor.kit Go.Proofs.YtpkiopijfhkagaaGreatDoor.wire
set_option linter.unusedVariables false

/-- A reader that is bad: nobody made it, or it turned so. -/
def Zero (w : World) (g : Nat) : Prop := Blk w g 77 #[.slice none 0 0, .pointer none]

theorem bad_nil (w : World) : Calls Tryz.prog 31 #[.pointer none] w fun e w' => e = .returned (.bool true) ∧ w = w' := by
  go_enter Tryz.func31, Tryz.ntmps31
  go_wp2
  go_ret
  exact ⟨rfl, rfl⟩

theorem info_reader : ∃ j, Tryz.prog.info? 77 = some j := by
  have h : (Tryz.prog.info? 77).isSome = true := by kernel_rfl
  exact Option.isSome_iff_exists.1 h
theorem neq_none (a : Addr) (w : World) : (binOp .neq 40 (.pointer none) (.pointer (some a))).run Tryz.prog w = .ok (.bool true) w := by
  kernel_rfl

set_option maxRecDepth 100000 in
theorem bad_zero (g : Nat) (w : World) (h : Zero w g) : Calls Tryz.prog 31 #[.pointer (some ⟨g, 0, none⟩)] w fun e w' => e = .returned (.bool true) ∧ w = w' := by
  have c1 := h.cell 1
  simp only [List.getElem?_toArray, List.getElem?_cons_zero, List.getElem?_cons_succ] at c1
  have hq := neq_none
  go_enter Tryz.func31, Tryz.ntmps31
  go_wp2
  go_ret
  exact ⟨rfl, rfl⟩

set_option maxRecDepth 100000 in
theorem bad_good (g : Nat) (l : List UInt8) (w : World) (h : Good w g l) : Calls Tryz.prog 31 #[.pointer (some ⟨g, 0, none⟩)] w fun e w' => e = .returned (.bool false) ∧ w = w' := by
  obtain ⟨A, c, hb, _⟩ := h
  have c1 := hb.cell 1
  simp only [List.getElem?_toArray, List.getElem?_cons_zero, List.getElem?_cons_succ] at c1
  obtain ⟨j, hj⟩ := info_reader
  have hq := fun W a => Lib.run_neq_ptr_same (P := Tryz.prog) (w := W) a Tryz.underlying40 hj
  go_enter Tryz.func31, Tryz.ntmps31
  go_wp2
  go_ret
  exact ⟨rfl, rfl⟩

theorem none_any (g : Nat) (l : List UInt8) (w : World) (h : Good w g l) : Calls Tryz.prog 50 #[.pointer (some ⟨g, 0, none⟩)] w fun e w' => e = .returned (.bool (decide (l = []))) ∧ w = w' := by
  obtain ⟨A, c, hb, _⟩ := h
  have c0 := hb.cell 0
  simp only [List.getElem?_toArray, List.getElem?_cons_zero] at c0
  have e : ((l.length : Int) == 0) = decide (l = []) := by cases l <;> simp; omega
  have E := Lib.hid e
  clear e
  go_enter Tryz.func50, Tryz.ntmps50
  go_wp2
  go_ret
  exact ⟨by rw [← E.out]; simp, rfl⟩

theorem done_nil (w : World) : Calls Tryz.prog 33 #[.pointer none] w fun e w' => e = .returned (.bool false) ∧ w = w' := by
  go_enter Tryz.func33, Tryz.ntmps33
  go_wp2_with (go_at_call 31; refine (bad_nil _).mono ?_; rintro e w1 ⟨rfl, rfl⟩)
  go_ret
  exact ⟨rfl, rfl⟩
theorem done_zero (g : Nat) (w : World) (h : Zero w g) : Calls Tryz.prog 33 #[.pointer (some ⟨g, 0, none⟩)] w fun e w' => e = .returned (.bool false) ∧ w = w' := by
  go_enter Tryz.func33, Tryz.ntmps33
  go_wp2_with (go_at_call 31; refine (bad_zero _ _ h).mono ?_; rintro e w1 ⟨rfl, rfl⟩)
  go_ret
  exact ⟨rfl, rfl⟩
theorem done_good (g : Nat) (l : List UInt8) (w : World) (h : Good w g l) : Calls Tryz.prog 33 #[.pointer (some ⟨g, 0, none⟩)] w fun e w' => e = .returned (.bool (decide (l = []))) ∧ w = w' := by
  go_enter Tryz.func33, Tryz.ntmps33
  go_wp2_with (first
    | (go_at_call 31; refine (bad_good _ _ _ h).mono ?_; rintro e w1 ⟨rfl, rfl⟩)
    | (go_at_call 50; refine (none_any _ _ _ h).mono ?_; rintro e w2 ⟨rfl, rfl⟩))
  go_ret
  exact ⟨by simp, rfl⟩

theorem catchI_panicking (b g : Nat) (u : TypeId) (pv x y : Value) (older : List PanicEntry) (w : World) (hb : w.cell? ⟨b, 0, none⟩ = some (.pointer (some ⟨g, 0, none⟩))) (hg : Blk w g 77 #[x, y]) :
    CallsD Tryz.prog 74 #[.pointer (some ⟨b, 0, none⟩)] (.panicking ({ v := .iface u pv, recovered := false } :: older)) w fun e u' w' =>
      e = .returned (.tuple #[]) ∧ u' = .panicking ({ v := .iface u pv, recovered := true } :: older) ∧ w' = w.setRow g #[.slice none 0 0, .pointer none] := by
  refine callsD_of_wpS Tryz.func74 rfl fun c₀ cs hu => ?_
  apply wpS_seq
  apply wpS_region
  simp [wpOpsS, go_sem, recoverD, hu, Tryz.ntmps74, Exit.thenS]
  refine wpS_cond (t := true) (by simp [Act.eval, Array.replicate]) ?_
  simp only [if_true]
  have ea : (#[Value.pointer (some ⟨b, 0, none⟩)] ++ ((Array.replicate 5 undef).setIfInBounds 0 (Value.iface u pv)).setIfInBounds 1 (Value.bool true) : Array Value) = #[.pointer (some ⟨b, 0, none⟩), .iface u pv, .bool true, undef, undef, undef] := rfl
  rw [ea]
  clear ea
  refine wpS_of_wp ?_
  have ei : (Tryz.prog.info? 77).map (·.size) = some 2 := by kernel_rfl
  have HG := Lib.hid hg
  clear hg
  go_wp2_with (refine wpList_store_row rfl 77 _ _ rfl g #[.slice none 0 0, .pointer none] rfl rfl 77 _ HG.out ei rfl (by simp [Value.oneCell']) ?_)
  simp [bodyPostS, results, Tryz.results74]

theorem catchI_idle (p : Addr) (w : World) :
    CallsD Tryz.prog 74 #[.pointer (some p)] .returning w fun e u' w' => e = .returned (.tuple #[]) ∧ u' = .returning ∧ w' = w := by
  refine callsD_of_wpS Tryz.func74 rfl fun c₀ cs hu => ?_
  apply wpS_seq
  apply wpS_region
  simp [wpOpsS, go_sem, recoverD, hu, Tryz.ntmps74, Exit.thenS]
  refine wpS_cond (t := false) (by simp [Act.eval, Array.replicate]) ?_
  simp only [Bool.false_eq_true, if_false]
  refine wpS_of_wp (wp_skip ?_)
  cases c₀
  simp_all [bodyPostS, results, Tryz.results74]

theorem catchB_panicking (b g : Nat) (u : TypeId) (pv x y : Value) (older : List PanicEntry) (w : World) (hb : w.cell? ⟨b, 0, none⟩ = some (.pointer (some ⟨g, 0, none⟩))) (hg : Blk w g 77 #[x, y]) :
    CallsD Tryz.prog 76 #[.pointer (some ⟨b, 0, none⟩)] (.panicking ({ v := .iface u pv, recovered := false } :: older)) w fun e u' w' =>
      e = .returned (.tuple #[]) ∧ u' = .panicking ({ v := .iface u pv, recovered := true } :: older) ∧ w' = w.setRow g #[.slice none 0 0, .pointer none] := by
  refine callsD_of_wpS Tryz.func76 rfl fun c₀ cs hu => ?_
  apply wpS_seq
  apply wpS_region
  simp [wpOpsS, go_sem, recoverD, hu, Tryz.ntmps76, Exit.thenS]
  refine wpS_cond (t := true) (by simp [Act.eval, Array.replicate]) ?_
  simp only [if_true]
  have ea : (#[Value.pointer (some ⟨b, 0, none⟩)] ++ ((Array.replicate 5 undef).setIfInBounds 0 (Value.iface u pv)).setIfInBounds 1 (Value.bool true) : Array Value) = #[.pointer (some ⟨b, 0, none⟩), .iface u pv, .bool true, undef, undef, undef] := rfl
  rw [ea]
  clear ea
  refine wpS_of_wp ?_
  have ei : (Tryz.prog.info? 77).map (·.size) = some 2 := by kernel_rfl
  have HG := Lib.hid hg
  clear hg
  go_wp2_with (refine wpList_store_row rfl 77 _ _ rfl g #[.slice none 0 0, .pointer none] rfl rfl 77 _ HG.out ei rfl (by simp [Value.oneCell']) ?_)
  simp [bodyPostS, results, Tryz.results76]

theorem catchB_idle (p : Addr) (w : World) :
    CallsD Tryz.prog 76 #[.pointer (some p)] .returning w fun e u' w' => e = .returned (.tuple #[]) ∧ u' = .returning ∧ w' = w := by
  refine callsD_of_wpS Tryz.func76 rfl fun c₀ cs hu => ?_
  apply wpS_seq
  apply wpS_region
  simp [wpOpsS, go_sem, recoverD, hu, Tryz.ntmps76, Exit.thenS]
  refine wpS_cond (t := false) (by simp [Act.eval, Array.replicate]) ?_
  simp only [Bool.false_eq_true, if_false]
  refine wpS_of_wp (wp_skip ?_)
  cases c₀
  simp_all [bodyPostS, results, Tryz.results76]

theorem catchE_panicking (b g : Nat) (u : TypeId) (pv x y : Value) (older : List PanicEntry) (w : World) (hb : w.cell? ⟨b, 0, none⟩ = some (.pointer (some ⟨g, 0, none⟩))) (hg : Blk w g 77 #[x, y]) :
    CallsD Tryz.prog 77 #[.pointer (some ⟨b, 0, none⟩)] (.panicking ({ v := .iface u pv, recovered := false } :: older)) w fun e u' w' =>
      e = .returned (.tuple #[]) ∧ u' = .panicking ({ v := .iface u pv, recovered := true } :: older) ∧ w' = w.setRow g #[.slice none 0 0, .pointer none] := by
  refine callsD_of_wpS Tryz.func77 rfl fun c₀ cs hu => ?_
  apply wpS_seq
  apply wpS_region
  simp [wpOpsS, go_sem, recoverD, hu, Tryz.ntmps77, Exit.thenS]
  refine wpS_cond (t := true) (by simp [Act.eval, Array.replicate]) ?_
  simp only [if_true]
  have ea : (#[Value.pointer (some ⟨b, 0, none⟩)] ++ ((Array.replicate 5 undef).setIfInBounds 0 (Value.iface u pv)).setIfInBounds 1 (Value.bool true) : Array Value) = #[.pointer (some ⟨b, 0, none⟩), .iface u pv, .bool true, undef, undef, undef] := rfl
  rw [ea]
  clear ea
  refine wpS_of_wp ?_
  have ei : (Tryz.prog.info? 77).map (·.size) = some 2 := by kernel_rfl
  have HG := Lib.hid hg
  clear hg
  go_wp2_with (refine wpList_store_row rfl 77 _ _ rfl g #[.slice none 0 0, .pointer none] rfl rfl 77 _ HG.out ei rfl (by simp [Value.oneCell']) ?_)
  simp [bodyPostS, results, Tryz.results77]

theorem catchE_idle (p : Addr) (w : World) :
    CallsD Tryz.prog 77 #[.pointer (some p)] .returning w fun e u' w' => e = .returned (.tuple #[]) ∧ u' = .returning ∧ w' = w := by
  refine callsD_of_wpS Tryz.func77 rfl fun c₀ cs hu => ?_
  apply wpS_seq
  apply wpS_region
  simp [wpOpsS, go_sem, recoverD, hu, Tryz.ntmps77, Exit.thenS]
  refine wpS_cond (t := false) (by simp [Act.eval, Array.replicate]) ?_
  simp only [Bool.false_eq_true, if_false]
  refine wpS_of_wp (wp_skip ?_)
  cases c₀
  simp_all [bodyPostS, results, Tryz.results77]

end Go.Proofs.YtpkiopijfhkagaaGreatDoor.rd
