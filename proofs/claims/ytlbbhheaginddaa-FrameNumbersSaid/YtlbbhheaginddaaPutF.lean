/-
  Contracts of frame's writers: Put.
-/
import Derived.Test.YtlbbhheaginddaaHead
import Derived.Defers
import Derived.Recover
import Derived.Lib.Builder
namespace Go.Proofs.Ytlbbhheaginddaa.fr
open Go.RowKit Go.Proofs.Ytlbbhheaginddaa.mem Go.Proofs.Ytlbbhheaginddaa.kit Go.Proofs.Ytlbbhheaginddaa.wire Go.Proofs.Ytlbbhheaginddaa.crc
set_option linter.unusedVariables false

theorem ta_nil (w : World) : (Instr.typeAssert Value.nilIface 20 28 true).run Try.prog w = .ok (.tuple #[.int .i64 0, .bool false]) w := by kernel_rfl
theorem ta_some (x : Int) (w : World) : (Instr.typeAssert (.iface 28 (.int .i64 x)) 20 28 true).run Try.prog w = .ok (.tuple #[.int .i64 x, .bool true]) w := by kernel_rfl

theorem arr11 (p q s3 s4 s2 s5 s6 s0 s1 : Value) : (#[p, q] ++ (((((((Array.replicate 9 undef).setIfInBounds 3 s3).setIfInBounds 4 s4).setIfInBounds 2 s2).setIfInBounds 5 s5).setIfInBounds 6 s6).setIfInBounds 0 s0).setIfInBounds 1 s1 : Array Value) = #[p, q, s0, s1, s2, s3, s4, s5, s6, undef, undef] := by kernel_rfl

set_option maxRecDepth 100000 in
theorem catch_idle (p q : Addr) (w : World) :
    CallsD Try.prog 17 #[.pointer (some p), .pointer (some q)] .returning w fun e u' w' => e = .returned (.tuple #[]) ∧ u' = .returning ∧ w' = w := by
  refine callsD_of_wpS Try.func17 rfl fun c₀ cs hu => ?_
  apply wpS_seq
  apply wpS_region
  simp [wpOpsS, go_sem, recoverD, hu, Try.ntmps17, Exit.thenS, ta_nil, Result.andThen]
  rw [arr11]
  apply wpS_seq
  apply wpS_region
  simp [wpOpsS, go_sem, Exit.thenS]
  refine wpS_cond (t := false) (by simp [Act.eval]) ?_
  simp only [Bool.false_eq_true, if_false]
  refine wpS_of_wp (wp_skip ?_)
  cases c₀
  simp_all [bodyPostS, results, Try.results17]
set_option maxRecDepth 100000 in
theorem catch_fault (b2 b3 : Nat) (x : Int) (v2 v3 : Value) (older : List PanicEntry) (w : World) (h2 : Blk w b2 24 #[v2]) (h3 : Blk w b3 28 #[v3]) :
    CallsD Try.prog 17 #[.pointer (some ⟨b2, 0, none⟩), .pointer (some ⟨b3, 0, none⟩)] (.panicking ({ v := .iface 28 (.int .i64 x), recovered := false } :: older)) w fun e u' w' =>
      e = .returned (.tuple #[]) ∧ u' = .panicking ({ v := .iface 28 (.int .i64 x), recovered := true } :: older) ∧ w' = (w.setCell ⟨b2, 0, none⟩ (.slice none 0 0)).setCell ⟨b3, 0, none⟩ (.int .i64 x) := by
  refine callsD_of_wpS Try.func17 rfl fun c₀ cs hu => ?_
  apply wpS_seq
  apply wpS_region
  simp [wpOpsS, go_sem, recoverD, hu, Try.ntmps17, Exit.thenS, ta_some, Result.andThen]
  rw [arr11]
  apply wpS_seq
  apply wpS_region
  simp [wpOpsS, go_sem, Exit.thenS]
  refine wpS_cond (t := true) (by simp [Act.eval]) ?_
  simp only [if_true]
  refine wpS_of_wp ?_
  have k2 : w.cell? ⟨b2, 0, none⟩ = some v2 := (h2.cell 0).trans rfl
  have z2 := h2.frozen 0
  have hne : b3 ≠ b2 := h3.ne_ h2 (by decide)
  have k3 : (w.setCell ⟨b2, 0, none⟩ (.slice none 0 0)).cell? ⟨b3, 0, none⟩ = some v3 := ((h3.far (p := ⟨b2, 0, none⟩) hne _).cell 0).trans rfl
  have z3 : (w.setCell ⟨b2, 0, none⟩ (.slice none 0 0)).frozen? ⟨b3, 0, none⟩ = false := (h3.far (p := ⟨b2, 0, none⟩) hne _).frozen 0
  clear h2 h3 hne
  go_wp2
  simp [bodyPostS, results, Try.results17]
end Go.Proofs.Ytlbbhheaginddaa.fr
