/-
  Lists of which there are none lie apart.
-/
import Derived.Test.YtpkiopijfhkagaaDoorKitC
namespace Go.Proofs.YtpkiopijfhkagaaDoor.kit
open Go.RowKit Go.Proofs.YtpkiopijfhkagaaDoor.mem
set_option linter.unusedVariables false

set_option maxRecDepth 100000 in
theorem flatLimbs_none (w : World) : Calls Tryd.prog 84 #[.slice none 0 0] w fun e w' => e = .returned (.bool true) ∧ New w w' := by
  have hmk : ∀ W : World, (Instr.makeSlice 74 (.int .i64 0) (.int .i64 0)).run Tryd.prog W = .ok (.slice (some ⟨W.heap.size, 0, none⟩) 0 0) (W.alloc (.cells #[] 140)) := fun _ => by kernel_rfl
  go_enter Tryd.func84, Tryd.ntmps84
  go_wp2
  iterate 5 (refine wp_loop_rounds 1 ?_; rw [rounds_succ]; go_wp2)
  go_ret
  exact ⟨rfl, (new_refl w).alloc (Nat.le_refl _) _⟩

set_option maxRecDepth 100000 in
theorem flatWords_none (w : World) : Calls Tryd.prog 85 #[.slice none 0 0] w fun e w' => e = .returned (.bool true) ∧ New w w' := by
  have hmk : ∀ W : World, (Instr.makeSlice 75 (.int .i64 0) (.int .i64 0)).run Tryd.prog W = .ok (.slice (some ⟨W.heap.size, 0, none⟩) 0 0) (W.alloc (.cells #[] 142)) := fun _ => by kernel_rfl
  go_enter Tryd.func85, Tryd.ntmps85
  go_wp2
  iterate 5 (refine wp_loop_rounds 1 ?_; rw [rounds_succ]; go_wp2)
  go_ret
  exact ⟨rfl, (new_refl w).alloc (Nat.le_refl _) _⟩

set_option maxRecDepth 100000 in
theorem flatInts_none (w : World) : Calls Tryd.prog 86 #[.slice none 0 0] w fun e w' => e = .returned (.bool true) ∧ New w w' := by
  have hmk : ∀ W : World, (Instr.makeSlice 76 (.int .i64 0) (.int .i64 0)).run Tryd.prog W = .ok (.slice (some ⟨W.heap.size, 0, none⟩) 0 0) (W.alloc (.cells #[] 23)) := fun _ => by kernel_rfl
  go_enter Tryd.func86, Tryd.ntmps86
  go_wp2
  iterate 5 (refine wp_loop_rounds 1 ?_; rw [rounds_succ]; go_wp2)
  go_ret
  exact ⟨rfl, (new_refl w).alloc (Nat.le_refl _) _⟩

set_option maxRecDepth 100000 in
theorem flatLongs_none (w : World) : Calls Tryd.prog 87 #[.slice none 0 0] w fun e w' => e = .returned (.bool true) ∧ New w w' := by
  have hmk : ∀ W : World, (Instr.makeSlice 77 (.int .i64 0) (.int .i64 0)).run Tryd.prog W = .ok (.slice (some ⟨W.heap.size, 0, none⟩) 0 0) (W.alloc (.cells #[] 143)) := fun _ => by kernel_rfl
  go_enter Tryd.func87, Tryd.ntmps87
  go_wp2
  iterate 5 (refine wp_loop_rounds 1 ?_; rw [rounds_succ]; go_wp2)
  go_ret
  exact ⟨rfl, (new_refl w).alloc (Nat.le_refl _) _⟩

set_option maxRecDepth 100000 in
theorem flatTexts_none (w : World) : Calls Tryd.prog 88 #[.slice none 0 0] w fun e w' => e = .returned (.bool true) ∧ New w w' := by
  have hmk : ∀ W : World, (Instr.makeSlice 78 (.int .i64 0) (.int .i64 0)).run Tryd.prog W = .ok (.slice (some ⟨W.heap.size, 0, none⟩) 0 0) (W.alloc (.cells #[] 144)) := fun _ => by kernel_rfl
  go_enter Tryd.func88, Tryd.ntmps88
  go_wp2
  iterate 5 (refine wp_loop_rounds 1 ?_; rw [rounds_succ]; go_wp2)
  go_ret
  exact ⟨rfl, (new_refl w).alloc (Nat.le_refl _) _⟩

set_option maxRecDepth 100000 in
theorem flatTruths_none (w : World) : Calls Tryd.prog 90 #[.slice none 0 0] w fun e w' => e = .returned (.bool true) ∧ New w w' := by
  have hmk : ∀ W : World, (Instr.makeSlice 79 (.int .i64 0) (.int .i64 0)).run Tryd.prog W = .ok (.slice (some ⟨W.heap.size, 0, none⟩) 0 0) (W.alloc (.cells #[] 146)) := fun _ => by kernel_rfl
  go_enter Tryd.func90, Tryd.ntmps90
  go_wp2
  iterate 5 (refine wp_loop_rounds 1 ?_; rw [rounds_succ]; go_wp2)
  go_ret
  exact ⟨rfl, (new_refl w).alloc (Nat.le_refl _) _⟩

set_option maxRecDepth 100000 in
theorem flatIns_none (w : World) : Calls Tryd.prog 91 #[.slice none 0 0] w fun e w' => e = .returned (.bool true) ∧ New w w' := by
  have hmk : ∀ W : World, (Instr.makeSlice 80 (.int .i64 0) (.int .i64 0)).run Tryd.prog W = .ok (.slice (some ⟨W.heap.size, 0, none⟩) 0 0) (W.alloc (.cells #[] 43)) := fun _ => by kernel_rfl
  go_enter Tryd.func91, Tryd.ntmps91
  go_wp2
  iterate 5 (refine wp_loop_rounds 1 ?_; rw [rounds_succ]; go_wp2)
  go_ret
  exact ⟨rfl, (new_refl w).alloc (Nat.le_refl _) _⟩

set_option maxRecDepth 100000 in
theorem flatSpans_none (w : World) : Calls Tryd.prog 92 #[.slice none 0 0] w fun e w' => e = .returned (.bool true) ∧ New w w' := by
  have hmk : ∀ W : World, (Instr.makeSlice 81 (.int .i64 0) (.int .i64 0)).run Tryd.prog W = .ok (.slice (some ⟨W.heap.size, 0, none⟩) 0 0) (W.alloc (.cells #[] 147)) := fun _ => by kernel_rfl
  go_enter Tryd.func92, Tryd.ntmps92
  go_wp2
  iterate 5 (refine wp_loop_rounds 1 ?_; rw [rounds_succ]; go_wp2)
  go_ret
  exact ⟨rfl, (new_refl w).alloc (Nat.le_refl _) _⟩

set_option maxRecDepth 100000 in
theorem flatKnowns_none (w : World) : Calls Tryd.prog 93 #[.slice none 0 0] w fun e w' => e = .returned (.bool true) ∧ New w w' := by
  have hmk : ∀ W : World, (Instr.makeSlice 82 (.int .i64 0) (.int .i64 0)).run Tryd.prog W = .ok (.slice (some ⟨W.heap.size, 0, none⟩) 0 0) (W.alloc (.cells #[] 151)) := fun _ => by kernel_rfl
  go_enter Tryd.func93, Tryd.ntmps93
  go_wp2
  iterate 5 (refine wp_loop_rounds 1 ?_; rw [rounds_succ]; go_wp2)
  go_ret
  exact ⟨rfl, (new_refl w).alloc (Nat.le_refl _) _⟩

set_option maxRecDepth 100000 in
theorem flatPlaces_none (w : World) : Calls Tryd.prog 94 #[.slice none 0 0] w fun e w' => e = .returned (.bool true) ∧ New w w' := by
  have hmk : ∀ W : World, (Instr.makeSlice 83 (.int .i64 0) (.int .i64 0)).run Tryd.prog W = .ok (.slice (some ⟨W.heap.size, 0, none⟩) 0 0) (W.alloc (.cells #[] 156)) := fun _ => by kernel_rfl
  go_enter Tryd.func94, Tryd.ntmps94
  go_wp2
  iterate 5 (refine wp_loop_rounds 1 ?_; rw [rounds_succ]; go_wp2)
  go_ret
  exact ⟨rfl, (new_refl w).alloc (Nat.le_refl _) _⟩

set_option maxRecDepth 100000 in
theorem flatFaults_none (w : World) : Calls Tryd.prog 95 #[.slice none 0 0] w fun e w' => e = .returned (.bool true) ∧ New w w' := by
  have hmk : ∀ W : World, (Instr.makeSlice 84 (.int .i64 0) (.int .i64 0)).run Tryd.prog W = .ok (.slice (some ⟨W.heap.size, 0, none⟩) 0 0) (W.alloc (.cells #[] 161)) := fun _ => by kernel_rfl
  go_enter Tryd.func95, Tryd.ntmps95
  go_wp2
  iterate 5 (refine wp_loop_rounds 1 ?_; rw [rounds_succ]; go_wp2)
  go_ret
  exact ⟨rfl, (new_refl w).alloc (Nat.le_refl _) _⟩

set_option maxRecDepth 100000 in
theorem flatOutcomes_none (w : World) : Calls Tryd.prog 96 #[.slice none 0 0] w fun e w' => e = .returned (.bool true) ∧ New w w' := by
  have hmk : ∀ W : World, (Instr.makeSlice 85 (.int .i64 0) (.int .i64 0)).run Tryd.prog W = .ok (.slice (some ⟨W.heap.size, 0, none⟩) 0 0) (W.alloc (.cells #[] 165)) := fun _ => by kernel_rfl
  go_enter Tryd.func96, Tryd.ntmps96
  go_wp2
  iterate 5 (refine wp_loop_rounds 1 ?_; rw [rounds_succ]; go_wp2)
  go_ret
  exact ⟨rfl, (new_refl w).alloc (Nat.le_refl _) _⟩

set_option maxRecDepth 100000 in
theorem flatFlats_none (w : World) : Calls Tryd.prog 97 #[.slice none 0 0] w fun e w' => e = .returned (.bool true) ∧ New w w' := by
  have hmk : ∀ W : World, (Instr.makeSlice 86 (.int .i64 0) (.int .i64 0)).run Tryd.prog W = .ok (.slice (some ⟨W.heap.size, 0, none⟩) 0 0) (W.alloc (.cells #[] 169)) := fun _ => by kernel_rfl
  go_enter Tryd.func97, Tryd.ntmps97
  go_wp2
  iterate 5 (refine wp_loop_rounds 1 ?_; rw [rounds_succ]; go_wp2)
  go_ret
  exact ⟨rfl, (new_refl w).alloc (Nat.le_refl _) _⟩

set_option maxRecDepth 100000 in
theorem flatBundles_none (w : World) : Calls Tryd.prog 98 #[.slice none 0 0] w fun e w' => e = .returned (.bool true) ∧ New w w' := by
  have hmk : ∀ W : World, (Instr.makeSlice 87 (.int .i64 0) (.int .i64 0)).run Tryd.prog W = .ok (.slice (some ⟨W.heap.size, 0, none⟩) 0 0) (W.alloc (.cells #[] 174)) := fun _ => by kernel_rfl
  go_enter Tryd.func98, Tryd.ntmps98
  go_wp2
  iterate 5 (refine wp_loop_rounds 1 ?_; rw [rounds_succ]; go_wp2)
  go_ret
  exact ⟨rfl, (new_refl w).alloc (Nat.le_refl _) _⟩

set_option maxRecDepth 100000 in
theorem flatEntries_none (w : World) : Calls Tryd.prog 99 #[.slice none 0 0] w fun e w' => e = .returned (.bool true) ∧ New w w' := by
  have hmk : ∀ W : World, (Instr.makeSlice 88 (.int .i64 0) (.int .i64 0)).run Tryd.prog W = .ok (.slice (some ⟨W.heap.size, 0, none⟩) 0 0) (W.alloc (.cells #[] 179)) := fun _ => by kernel_rfl
  go_enter Tryd.func99, Tryd.ntmps99
  go_wp2
  iterate 5 (refine wp_loop_rounds 1 ?_; rw [rounds_succ]; go_wp2)
  go_ret
  exact ⟨rfl, (new_refl w).alloc (Nat.le_refl _) _⟩

set_option maxRecDepth 100000 in
theorem flatHeldRow_none (w : World) : Calls Tryd.prog 100 #[.slice none 0 0] w fun e w' => e = .returned (.bool true) ∧ New w w' := by
  have hmk : ∀ W : World, (Instr.makeSlice 89 (.int .i64 0) (.int .i64 0)).run Tryd.prog W = .ok (.slice (some ⟨W.heap.size, 0, none⟩) 0 0) (W.alloc (.cells #[] 181)) := fun _ => by kernel_rfl
  go_enter Tryd.func100, Tryd.ntmps100
  go_wp2
  iterate 5 (refine wp_loop_rounds 1 ?_; rw [rounds_succ]; go_wp2)
  go_ret
  exact ⟨rfl, (new_refl w).alloc (Nat.le_refl _) _⟩

set_option maxRecDepth 100000 in
theorem flatRegistries_none (w : World) : Calls Tryd.prog 101 #[.slice none 0 0] w fun e w' => e = .returned (.bool true) ∧ New w w' := by
  have hmk : ∀ W : World, (Instr.makeSlice 90 (.int .i64 0) (.int .i64 0)).run Tryd.prog W = .ok (.slice (some ⟨W.heap.size, 0, none⟩) 0 0) (W.alloc (.cells #[] 186)) := fun _ => by kernel_rfl
  go_enter Tryd.func101, Tryd.ntmps101
  go_wp2
  iterate 5 (refine wp_loop_rounds 1 ?_; rw [rounds_succ]; go_wp2)
  go_ret
  exact ⟨rfl, (new_refl w).alloc (Nat.le_refl _) _⟩

set_option maxRecDepth 100000 in
theorem flatLetters_none (w : World) : Calls Tryd.prog 102 #[.slice none 0 0] w fun e w' => e = .returned (.bool true) ∧ New w w' := by
  have hmk : ∀ W : World, (Instr.makeSlice 91 (.int .i64 0) (.int .i64 0)).run Tryd.prog W = .ok (.slice (some ⟨W.heap.size, 0, none⟩) 0 0) (W.alloc (.cells #[] 191)) := fun _ => by kernel_rfl
  go_enter Tryd.func102, Tryd.ntmps102
  go_wp2
  iterate 5 (refine wp_loop_rounds 1 ?_; rw [rounds_succ]; go_wp2)
  go_ret
  exact ⟨rfl, (new_refl w).alloc (Nat.le_refl _) _⟩

set_option maxRecDepth 100000 in
theorem flatSteps_none (w : World) : Calls Tryd.prog 103 #[.slice none 0 0] w fun e w' => e = .returned (.bool true) ∧ New w w' := by
  have hmk : ∀ W : World, (Instr.makeSlice 92 (.int .i64 0) (.int .i64 0)).run Tryd.prog W = .ok (.slice (some ⟨W.heap.size, 0, none⟩) 0 0) (W.alloc (.cells #[] 197)) := fun _ => by kernel_rfl
  go_enter Tryd.func103, Tryd.ntmps103
  go_wp2
  iterate 5 (refine wp_loop_rounds 1 ?_; rw [rounds_succ]; go_wp2)
  go_ret
  exact ⟨rfl, (new_refl w).alloc (Nat.le_refl _) _⟩

set_option maxRecDepth 100000 in
theorem flatTales_none (w : World) : Calls Tryd.prog 104 #[.slice none 0 0] w fun e w' => e = .returned (.bool true) ∧ New w w' := by
  have hmk : ∀ W : World, (Instr.makeSlice 93 (.int .i64 0) (.int .i64 0)).run Tryd.prog W = .ok (.slice (some ⟨W.heap.size, 0, none⟩) 0 0) (W.alloc (.cells #[] 203)) := fun _ => by kernel_rfl
  go_enter Tryd.func104, Tryd.ntmps104
  go_wp2
  iterate 5 (refine wp_loop_rounds 1 ?_; rw [rounds_succ]; go_wp2)
  go_ret
  exact ⟨rfl, (new_refl w).alloc (Nat.le_refl _) _⟩

end Go.Proofs.YtpkiopijfhkagaaDoor.kit
