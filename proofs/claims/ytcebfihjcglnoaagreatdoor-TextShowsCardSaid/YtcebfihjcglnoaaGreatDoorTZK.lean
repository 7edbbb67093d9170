/-
  The document's parts of a line.
-/
import Derived.Test.YtcebfihjcglnoaaGreatDoorTZI
namespace Go.Proofs.YtcebfihjcglnoaaGreatDoor.txt
open Go.RowKit Go.Proofs.YtcebfihjcglnoaaGreatDoor.mem Go.Proofs.YtcebfihjcglnoaaGreatDoor.kit Go.Proofs.YtcebfihjcglnoaaGreatDoor.ins
set_option linter.unusedVariables false
set_option linter.unusedSimpArgs false

set_option maxRecDepth 100000 in
theorem rr_any (n : Int) (w : World) (hn : I64 n) (hP : PowT w) : Calls Tryz.prog 104 #[.int .i64 n] w fun e w' => e = .returned (.string ⟨(regB n).toArray⟩) ∧ New w w' := by
  have HI := Lib.hid (itoa_any n w hn hP)
  have hl := itoa_le n hn
  unfold regB
  generalize Lib.itoa n = x at *
  have a1 := fun W => add_str [114] x (by simp; omega) W
  go_enter Tryz.func104, Tryz.ntmps104
  go_wp2_with (go_at_call 103; refine HI.out.mono ?_; rintro e w1 ⟨rfl, hn1⟩)
  go_ret
  exact ⟨rfl, hn1⟩
set_option maxRecDepth 100000 in
theorem rfar_any (n : Int) (w : World) (hn : I64 n) (hP : PowT w) : Calls Tryz.prog 102 #[.int .i64 n] w fun e w' => e = .returned (.string ⟨(sgnB n).toArray⟩) ∧ New w w' := by
  have HI := Lib.hid (itoa_any n w hn hP)
  have hl := itoa_le n hn
  obtain ⟨x, hx⟩ : ∃ x, Lib.itoa n = x := ⟨_, rfl⟩
  rw [hx] at HI hl
  have a1 := fun W => add_str [43] x (by simp; omega) W
  by_cases h : n < 0
  · have e : sgnB n = x := by simp [sgnB, h, hx]
    rw [e]
    clear e hx
    go_enter Tryz.func102, Tryz.ntmps102
    go_wp2_with (go_at_call 103; refine HI.out.mono ?_; rintro e w1 ⟨rfl, hn1⟩)
    go_ret
    exact ⟨rfl, hn1⟩
  · have e : sgnB n = [43] ++ x := by simp [sgnB, h, hx]
    rw [e]
    clear e hx
    go_enter Tryz.func102, Tryz.ntmps102
    go_wp2_with (go_at_call 103; refine HI.out.mono ?_; rintro e w1 ⟨rfl, hn1⟩)
    go_ret
    exact ⟨rfl, hn1⟩
set_option maxRecDepth 100000 in
theorem rcell_any (r f : Int) (w : World) (hr : I64 r) (hf : -32768 ≤ f ∧ f ≤ 32767) (hP : PowT w) : Calls Tryz.prog 105 #[.int .i64 r, .int .i64 f] w fun e w' => e = .returned (.string ⟨(celB r f).toArray⟩) ∧ New w w' := by
  have HR := Lib.hid (rr_any r w hr hP)
  have hl := regB_le r hr
  have HP := Lib.hid hP
  obtain ⟨f0, f1⟩ := hf
  by_cases h : f < 0
  · have hi : I64 (-f) := ⟨by omega, by omega⟩
    have HI := Lib.hid (fun W hW => itoa_any (-f) W hi hW)
    have hl2 := itoa_le (-f) hi
    unfold celB
    rw [if_pos h, if_pos h]
    generalize regB r = x at *
    generalize Lib.itoa (-f) = y at *
    have a1 := fun W => add_str [91] x (by simp; omega) W
    have a2 := fun W => add_str ([91] ++ x) [32, 45, 32] (by simp; omega) W
    have a3 := fun W => add_str ([91] ++ x ++ [32, 45, 32]) y (by simp; omega) W
    have a4 := fun W => add_str ([91] ++ x ++ [32, 45, 32] ++ y) [93] (by simp; omega) W
    clear hP hi hr
    go_enter Tryz.func105, Tryz.ntmps105
    go_wp2_with (first
      | (go_at_call 104; refine HR.out.mono ?_; rintro e w1 ⟨rfl, hn1⟩)
      | (go_at_call 103; refine (HI.out _ (HP.out.new hn1)).mono ?_; rintro e w2 ⟨rfl, hn2⟩))
    go_ret
    exact ⟨rfl, New.then hn1 hn2⟩
  · have hi : I64 f := ⟨by omega, by omega⟩
    have HI := Lib.hid (fun W hW => itoa_any f W hi hW)
    have hl2 := itoa_le f hi
    unfold celB
    rw [if_neg h, if_neg h]
    generalize regB r = x at *
    generalize Lib.itoa f = y at *
    have a1 := fun W => add_str [91] x (by simp; omega) W
    have a2 := fun W => add_str ([91] ++ x) [32, 43, 32] (by simp; omega) W
    have a3 := fun W => add_str ([91] ++ x ++ [32, 43, 32]) y (by simp; omega) W
    have a4 := fun W => add_str ([91] ++ x ++ [32, 43, 32] ++ y) [93] (by simp; omega) W
    clear hP hi hr
    go_enter Tryz.func105, Tryz.ntmps105
    go_wp2_with (first
      | (go_at_call 104; refine HR.out.mono ?_; rintro e w1 ⟨rfl, hn1⟩)
      | (go_at_call 103; refine (HI.out _ (HP.out.new hn1)).mono ?_; rintro e w2 ⟨rfl, hn2⟩))
    go_ret
    exact ⟨rfl, New.then hn1 hn2⟩
set_option maxRecDepth 100000 in
theorem rsec_any (i : In) (w : World) (hm : I64 i.imm) (hs : I64 i.src) (hP : PowT w) : Calls Tryz.prog 106 #[.agg (icell i)] w fun e w' => e = .returned (.string ⟨(secB i).toArray⟩) ∧ New w w' := by
  have n1 := new1 w (.cells (icell i) 47)
  have HN := Lib.hid n1
  have HI := Lib.hid (itoa_any i.imm _ hm (hP.new n1))
  have HR := Lib.hid (rr_any i.src _ hs (hP.new n1))
  obtain ⟨io, inr, id, isr, iu, iof, iim, isz⟩ := i
  clear n1
  cases iu
  all_goals
    go_enter Tryz.func106, Tryz.ntmps106
    go_wp2_with (first
      | (go_at_call 104; refine HR.out.mono ?_; rintro e w1 ⟨rfl, hn1⟩)
      | (go_at_call 103; refine HI.out.mono ?_; rintro e w1 ⟨rfl, hn1⟩))
    go_ret
    exact ⟨rfl, New.then HN.out hn1⟩
end Go.Proofs.YtcebfihjcglnoaaGreatDoor.txt

namespace Go.Proofs.YtcebfihjcglnoaaGreatDoor.txt
open Go.RowKit Go.Proofs.YtcebfihjcglnoaaGreatDoor.mem Go.Proofs.YtcebfihjcglnoaaGreatDoor.kit Go.Proofs.YtcebfihjcglnoaaGreatDoor.ins
set_option linter.unusedVariables false
set_option linter.unusedSimpArgs false

/-- The document's list of words, from Add on; empty: none. -/
def rws : List Bs := [nameB 1, nameB 2, nameB 3, nameB 4, nameB 5, nameB 6, nameB 7, nameB 8, nameB 9, nameB 10, nameB 11, nameB 12, nameB 13, [], [], [], nameB 17, nameB 18, nameB 19, nameB 20, nameB 21, nameB 22, nameB 23, nameB 24, nameB 25, nameB 26, nameB 27]
def RwD (w : World) (e : Ending) (w' : World) : Prop := ∃ b, e = .returned (.slice (some ⟨b, 0, none⟩) 27 27) ∧ (∀ j, j < 27 → w'.cell? ⟨b, j, none⟩ = some (sv (rws.getD j []))) ∧ New w w'
set_option maxRecDepth 100000 in
theorem rwords_any (w : World) : Calls Tryz.prog 101 #[] w (RwD w) := by
  go_enter Tryz.func101, Tryz.ntmps101
  go_wp2
  go_ret
  have hb := Blk.new w 9 (rws.map sv).toArray
  refine ⟨w.heap.size, rfl, fun j hj => ?_, new1 w _⟩
  refine (hb.cell j).trans ?_
  have hl : j < rws.length := hj
  simp [hl, List.getD]
end Go.Proofs.YtcebfihjcglnoaaGreatDoor.txt
