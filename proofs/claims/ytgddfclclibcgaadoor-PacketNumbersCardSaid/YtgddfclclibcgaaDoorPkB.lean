/-
  Contracts of packet: what is caught.
-/
import Derived.Test.YtgddfclclibcgaaDoorPkA
namespace Go.Proofs.YtgddfclclibcgaaDoor.pk
open Go.RowKit Go.Proofs.YtgddfclclibcgaaDoor.mem Go.Proofs.YtgddfclclibcgaaDoor.kit
set_option linter.unusedVariables false

theorem ta_nil (w : World) : (Instr.typeAssert Value.nilIface 20 32 true).run Tryd.prog w = .ok (.tuple #[.int .i64 0, .bool false]) w := by kernel_rfl
theorem ta_some (x : Int) (w : World) : (Instr.typeAssert (.iface 32 (.int .i64 x)) 20 32 true).run Tryd.prog w = .ok (.tuple #[.int .i64 x, .bool true]) w := by kernel_rfl

theorem arr9 (p s3 s4 s2 s5 s6 s0 s1 : Value) : (#[p] ++ (((((((Array.replicate 9 undef).setIfInBounds 3 s3).setIfInBounds 4 s4).setIfInBounds 2 s2).setIfInBounds 5 s5).setIfInBounds 6 s6).setIfInBounds 0 s0).setIfInBounds 1 s1 : Array Value) = #[p, s0, s1, s2, s3, s4, s5, s6, undef, undef] := by kernel_rfl

set_option maxRecDepth 100000 in
theorem catch_idle (p : Addr) (w : World) :
    CallsD Tryd.prog 27 #[.pointer (some p)] .returning w fun e u' w' => e = .returned (.tuple #[]) ∧ u' = .returning ∧ w' = w := by
  refine callsD_of_wpS Tryd.func27 rfl fun c₀ cs hu => ?_
  apply wpS_seq
  apply wpS_region
  simp [wpOpsS, go_sem, recoverD, hu, Tryd.ntmps27, Exit.thenS, ta_nil, Result.andThen]
  rw [arr9]
  apply wpS_seq
  apply wpS_region
  simp [wpOpsS, go_sem, Exit.thenS]
  refine wpS_cond (t := false) (by simp [Act.eval]) ?_
  simp only [Bool.false_eq_true, if_false]
  refine wpS_of_wp (wp_skip ?_)
  cases c₀
  simp_all [bodyPostS, results, Tryd.results27]
set_option maxRecDepth 100000 in
theorem catch_fault (b3 : Nat) (x : Int) (v3 : Value) (older : List PanicEntry) (w : World) (h3 : Blk w b3 32 #[v3]) :
    CallsD Tryd.prog 27 #[.pointer (some ⟨b3, 0, none⟩)] (.panicking ({ v := .iface 32 (.int .i64 x), recovered := false } :: older)) w fun e u' w' =>
      e = .returned (.tuple #[]) ∧ u' = .panicking ({ v := .iface 32 (.int .i64 x), recovered := true } :: older) ∧ w' = w.setCell ⟨b3, 0, none⟩ (.int .i64 x) := by
  refine callsD_of_wpS Tryd.func27 rfl fun c₀ cs hu => ?_
  apply wpS_seq
  apply wpS_region
  simp [wpOpsS, go_sem, recoverD, hu, Tryd.ntmps27, Exit.thenS, ta_some, Result.andThen]
  rw [arr9]
  apply wpS_seq
  apply wpS_region
  simp [wpOpsS, go_sem, Exit.thenS]
  refine wpS_cond (t := true) (by simp [Act.eval]) ?_
  simp only [if_true]
  refine wpS_of_wp ?_
  have k3 : w.cell? ⟨b3, 0, none⟩ = some v3 := (h3.cell 0).trans rfl
  have z3 : w.frozen? ⟨b3, 0, none⟩ = false := h3.frozen 0
  clear h3
  go_wp2
  simp [bodyPostS, results, Tryd.results27]

/-- What was done goes on; or it is an error. -/
def errC (w : World) : World := w.alloc (.cells #[.int .i64 0] 32)
set_option maxRecDepth 100000 in
set_option maxHeartbeats 1000000 in
theorem caught_ok (f : Nat) (lb : Array Value) (S : Nat → Prop) (w : World) (eg : ∀ args w, (callFunc f args).run Tryd.prog w = .ok (.enter f args) w) (hS : ∀ j, S j → j < w.heap.size) (Q : World → Prop)
    (hQ : ∀ w1 w2, Q w1 → Ch (fun j => j = w.heap.size) w1 w2 → Q w2)
    (hdo : Calls Tryd.prog f lb (errC w) fun e w' => e = .returned (.tuple #[]) ∧ Ch S (errC w) w' ∧ Q w') :
    Calls Tryd.prog 20 #[.func (.func f) #[] lb] w fun e w' => e = .returned (.int .i64 0) ∧ Ch S w w' ∧ Q w' := by
  have hmf : ∀ (fn : Fn) (first cap : Array Value) (w : World), (Instr.makeFunc fn first cap).run Tryd.prog w = .ok (.func fn first cap) w := fun _ _ _ _ => rfl
  have HD := Lib.hid hdo
  have H0 := Lib.hid (Blk.new w 32 #[.int .i64 0])
  clear hdo
  go_enter_defers Tryd.func20, Tryd.ntmps20
  go_wp2
  refine HD.out.mono ?_
  rintro e w1 ⟨rfl, hch, hq⟩
  have h1 := H0.out.ch hch (fun e => by have := hS _ e; omega)
  have k3 : w1.cell? ⟨w.heap.size, 0, none⟩ = some (.int .i64 0) := (h1.cell 0).trans rfl
  have z3 := h1.frozen 0
  have HCH := Lib.hid hch
  have HQ := Lib.hid hq
  have H1 := Lib.hid h1
  clear hch hq h1
  go_wp2
  refine leaves_cons (f := 27) (args := #[.pointer (some ⟨w.heap.size, 0, none⟩)]) (by simp) (by simp [go_sem]) ?_
  refine (catch_idle ⟨w.heap.size, 0, none⟩ _).mono ?_
  rintro e u' w'' ⟨rfl, rfl, rfl⟩
  have a3 := H1.out.set_ 0 (.int .i64 0)
  have c3 : Ch (fun j => j = w.heap.size) w1 (w1.setCell ⟨w.heap.size, 0, none⟩ (.int .i64 0)) := (Ch.refl (fun j => j = w.heap.size) w1).setCell (p := ⟨w.heap.size, 0, none⟩) (fun _ => rfl) _
  generalize (w1.setCell ⟨w.heap.size, 0, none⟩ (.int .i64 0)) = w9 at *
  have d3 : w9.cell? ⟨w.heap.size, 0, none⟩ = some (.int .i64 0) := (a3.cell 0).trans rfl
  refine ⟨.int .i64 0, by simp [results, Tryd.results20, go_sem, d3], rfl, ?_, hQ _ _ HQ.out c3⟩
  exact ((Ch.of_new (S := S) (alloc_new w _)).trans HCH.out).then c3 (fun i hi e => by have e' : i = w.heap.size := e; omega)
set_option maxRecDepth 100000 in
set_option maxHeartbeats 1000000 in
theorem caught_fault (f : Nat) (lb : Array Value) (x : Int) (w : World) (eg : ∀ args w, (callFunc f args).run Tryd.prog w = .ok (.enter f args) w)
    (hdo : Calls Tryd.prog f lb (errC w) (Fault (errC w) x)) :
    Calls Tryd.prog 20 #[.func (.func f) #[] lb] w fun e w' => e = .returned (.int .i64 x) ∧ New w w' := by
  have hmf : ∀ (fn : Fn) (first cap : Array Value) (w : World), (Instr.makeFunc fn first cap).run Tryd.prog w = .ok (.func fn first cap) w := fun _ _ _ _ => rfl
  have HD := Lib.hid hdo
  have H0 := Lib.hid (Blk.new w 32 #[.int .i64 0])
  clear hdo
  go_enter_defers Tryd.func20, Tryd.ntmps20
  go_wp2
  refine HD.out.mono ?_
  rintro e w1 ⟨rfl, rfl⟩
  refine leaves_cons (f := 27) (args := #[.pointer (some ⟨w.heap.size, 0, none⟩)]) (by simp) (by simp [go_sem]) ?_
  refine (catch_fault w.heap.size x _ [] (errC w) H0.out).mono ?_
  rintro e u' w'' ⟨rfl, rfl, rfl⟩
  have a3 := H0.out.set_ 0 (.int .i64 x)
  have d3 : ((errC w).setCell ⟨w.heap.size, 0, none⟩ (.int .i64 x)).cell? ⟨w.heap.size, 0, none⟩ = some (.int .i64 x) := (a3.cell 0).trans rfl
  exact ⟨.int .i64 x, by simp [results, Tryd.results20, go_sem, d3], rfl, (alloc_new w _).setCell (p := ⟨w.heap.size, 0, none⟩) (Nat.le_refl _) _⟩
end Go.Proofs.YtgddfclclibcgaaDoor.pk
