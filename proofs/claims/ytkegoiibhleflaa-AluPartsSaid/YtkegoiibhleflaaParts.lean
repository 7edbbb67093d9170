/-
  The numbers of AluParts and AluEdges; their walks.
-/
import Derived.Test.YtkegoiibhleflaaLaws
namespace Go.Proofs.Ytkegoiibhleflaa.laws
open Go.ChangeShapes Go.WideShapes Go.ChangeAt Go.RowKit Go.Proofs.Ytkegoiibhleflaa.alu Go.Proofs.Ytkegoiibhleflaa.ends
set_option linter.unusedVariables false

def M (nar : Bool) : Int := if nar = true then 4294967296 else 18446744073709551616

theorem and_bd (x y : Int) : 0 ≤ bits BinOp.and IntKind.u64 x y ∧ bits BinOp.and IntKind.u64 x y ≤ 18446744073709551615 := ref.u64_bd _
theorem doAns_bd (op : Int) (nar : Bool) (a b : Int) : 0 ≤ doAns op nar a b ∧ doAns op nar a b ≤ 18446744073709551615 := by
  unfold doAns
  split
  · exact and_bd _ _
  · omega

theorem fin (nar : Bool) (x : Int) (h0 : 0 ≤ x) (h1 : x ≤ 18446744073709551615) : bits BinOp.and IntKind.u64 x (most nar) = x % M nar := by
  cases nar
  · show bits BinOp.and IntKind.u64 x 18446744073709551615 = x % 18446744073709551616
    rw [ref.and_all x h0 h1]; omega
  · exact ref.and_low x h0 h1

theorem doAns1 (nar : Bool) (x y : Int) : doAns 1 nar x y = (x + y) % M nar := by
  show bits BinOp.and IntKind.u64 (IntKind.u64.wrap (cut nar x + cut nar y)) (most nar) = _
  rw [fin nar _ (ref.u64_bd _).1 (ref.u64_bd _).2, IntKind.wrap_u64]
  cases nar <;> simp only [cut, M, if_true, Bool.false_eq_true, if_false] <;> omega
theorem doAns2 (nar : Bool) (x y : Int) : doAns 2 nar x y = (x - y) % M nar := by
  show bits BinOp.and IntKind.u64 (IntKind.u64.wrap (cut nar x - cut nar y)) (most nar) = _
  rw [fin nar _ (ref.u64_bd _).1 (ref.u64_bd _).2, IntKind.wrap_u64]
  cases nar <;> simp only [cut, M, if_true, Bool.false_eq_true, if_false] <;> omega
theorem doAns3 (nar : Bool) (x y : Int) : doAns 3 nar x y = (x * y) % M nar := by
  show bits BinOp.and IntKind.u64 (IntKind.u64.wrap (cut nar x * cut nar y)) (most nar) = _
  rw [fin nar _ (ref.u64_bd _).1 (ref.u64_bd _).2, IntKind.wrap_u64]
  cases nar <;> simp only [cut, M, if_true, Bool.false_eq_true, if_false]
  · omega
  · rw [ref.cut_twice, ← Int.mul_emod]
theorem doAns13 (nar : Bool) (x y : Int) : doAns 13 nar x y = (-x) % M nar := by
  show bits BinOp.and IntKind.u64 (IntKind.u64.wrap (-cut nar x)) (most nar) = _
  rw [fin nar _ (ref.u64_bd _).1 (ref.u64_bd _).2, IntKind.wrap_u64]
  cases nar <;> simp only [cut, M, if_true, Bool.false_eq_true, if_false] <;> omega

theorem cut_M (nar : Bool) (a : Int) (a0 : 0 ≤ a) (a1 : a ≤ 18446744073709551615) : cut nar a = a % M nar := by
  cases nar <;> simp only [cut, M, if_true, Bool.false_eq_true, if_false] <;> omega
theorem M_pos (nar : Bool) : 0 < M nar := by cases nar <;> simp [M]
theorem M_le (nar : Bool) : M nar ≤ 18446744073709551616 := by cases nar <;> simp [M]

theorem doErr_ok (op : Int) (h : op = 4 ∨ op = 5) (nar : Bool) (b : Int) (hne : ¬ cut nar b = 0) : doErr op nar b = 0 := by
  unfold doErr; rw [if_pos (by omega), if_neg (fun hb => hne hb.2)]
theorem doErr_no (op : Int) (h : op = 4 ∨ op = 5) (nar : Bool) (b : Int) (hz : cut nar b = 0) : doErr op nar b = 113 := by
  unfold doErr; rw [if_pos (by omega), if_pos ⟨h, hz⟩]
theorem doAns4 (nar : Bool) (a b : Int) (a0 : 0 ≤ a) (a1 : a ≤ 18446744073709551615) (b0 : 0 ≤ b) (b1 : b ≤ 18446744073709551615) (hne : ¬ cut nar b = 0) : doAns 4 nar a b = cut nar a / cut nar b := by
  have ca := cut_in nar a a0 a1
  have cb := cut_in nar b b0 b1
  have hd := ref.div_bd (cut nar a) (cut nar b) ca.1 cb.1
  have hlt : cut nar a < M nar := by rw [cut_M nar a a0 a1]; exact Int.emod_lt_of_pos _ (M_pos nar)
  unfold doAns
  rw [if_pos (doErr_ok 4 (by omega) nar b hne)]
  show bits BinOp.and IntKind.u64 (cut nar a / cut nar b) (most nar) = _
  rw [fin nar _ (by omega) (by omega)]
  exact Int.emod_eq_of_lt (by omega) (by omega)
theorem doAns5 (nar : Bool) (a b : Int) (a0 : 0 ≤ a) (a1 : a ≤ 18446744073709551615) (b0 : 0 ≤ b) (b1 : b ≤ 18446744073709551615) (hne : ¬ cut nar b = 0) : doAns 5 nar a b = cut nar a % cut nar b := by
  have ca := cut_in nar a a0 a1
  have cb := cut_in nar b b0 b1
  have hd := ref.mod_bd (cut nar a) (cut nar b) ca.1 cb.1 hne
  have hlt : cut nar a < M nar := by rw [cut_M nar a a0 a1]; exact Int.emod_lt_of_pos _ (M_pos nar)
  unfold doAns
  rw [if_pos (doErr_ok 5 (by omega) nar b hne)]
  show bits BinOp.and IntKind.u64 (cut nar a % cut nar b) (most nar) = _
  rw [fin nar _ (by omega) (by omega)]
  exact Int.emod_eq_of_lt (by omega) (by omega)

theorem part1 (nar : Bool) (a b : Int) (a0 : 0 ≤ a) (a1 : a ≤ 18446744073709551615) : doAns 2 nar (doAns 1 nar a b) b = cut nar a := by
  rw [doAns2, doAns1, cut_M nar a a0 a1, Int.sub_emod, Int.emod_emod, ← Int.sub_emod, Int.add_sub_cancel]
theorem part2 (nar : Bool) (a b : Int) (a0 : 0 ≤ a) (a1 : a ≤ 18446744073709551615) : doAns 1 nar (doAns 1 nar a b) (doAns 13 nar b a) = cut nar a := by
  rw [doAns1, doAns1, doAns13, cut_M nar a a0 a1, ← Int.add_emod]
  congr 1; omega
theorem part3 (nar : Bool) (a b : Int) (a0 : 0 ≤ a) (a1 : a ≤ 18446744073709551615) (b0 : 0 ≤ b) (b1 : b ≤ 18446744073709551615) (hne : ¬ cut nar b = 0) :
    doAns 1 nar (doAns 3 nar (doAns 4 nar a b) b) (doAns 5 nar a b) = cut nar a := by
  have ca := cut_in nar a a0 a1
  have hlt : cut nar a < M nar := by rw [cut_M nar a a0 a1]; exact Int.emod_lt_of_pos _ (M_pos nar)
  rw [doAns1, doAns3, doAns4 nar a b a0 a1 b0 b1 hne, doAns5 nar a b a0 a1 b0 b1 hne]
  have e : cut nar a / cut nar b * b % M nar = cut nar a / cut nar b * cut nar b % M nar := by
    rw [cut_M nar b b0 b1, Int.mul_emod (cut nar a / (b % M nar)) b, Int.mul_emod (cut nar a / (b % M nar)) (b % M nar), Int.emod_emod]
  rw [e, Int.add_emod, Int.emod_emod, ← Int.add_emod, Int.mul_comm, Int.mul_ediv_add_emod]
  exact Int.emod_eq_of_lt ca.1 hlt
theorem part4 (nar : Bool) (a b : Int) (a0 : 0 ≤ a) (a1 : a ≤ 18446744073709551615) (b0 : 0 ≤ b) (b1 : b ≤ 18446744073709551615) (hne : ¬ cut nar b = 0) : doAns 5 nar a b < cut nar b := by
  have cb := cut_in nar b b0 b1
  rw [doAns5 nar a b a0 a1 b0 b1 hne]
  exact Int.emod_lt_of_pos _ (by omega)

theorem is18 (nar : Bool) (a b : Int) : isAns 18 nar a b = !isAns 17 nar a b := by
  show (cut nar a != cut nar b) = !(cut nar a == cut nar b); rfl
theorem is22 (nar : Bool) (a b : Int) : isAns 22 nar a b = !isAns 19 nar a b := by
  show decide (cut nar a ≤ cut nar b) = !decide (cut nar b < cut nar a)
  by_cases h : cut nar a ≤ cut nar b
  · rw [decide_eq_true h, decide_eq_false (by omega)]; rfl
  · rw [decide_eq_false h, decide_eq_true (by omega)]; rfl
theorem is21 (nar : Bool) (a b : Int) : isAns 21 nar a b = !isAns 20 nar a b := by
  show decide (cut nar a < cut nar b) = !decide (cut nar b ≤ cut nar a)
  by_cases h : cut nar a < cut nar b
  · rw [decide_eq_true h, decide_eq_false (by omega)]; rfl
  · rw [decide_eq_false h, decide_eq_true (by omega)]; rfl
theorem is26 (nar : Bool) (a b : Int) : isAns 26 nar a b = !isAns 23 nar a b := by
  show decide (sgn nar a ≤ sgn nar b) = !decide (sgn nar b < sgn nar a)
  by_cases h : sgn nar a ≤ sgn nar b
  · rw [decide_eq_true h, decide_eq_false (by omega)]; rfl
  · rw [decide_eq_false h, decide_eq_true (by omega)]; rfl
theorem is25 (nar : Bool) (a b : Int) : isAns 25 nar a b = !isAns 24 nar a b := by
  show decide (sgn nar a < sgn nar b) = !decide (sgn nar b ≤ sgn nar a)
  by_cases h : sgn nar a < sgn nar b
  · rw [decide_eq_true h, decide_eq_false (by omega)]; rfl
  · rw [decide_eq_false h, decide_eq_true (by omega)]; rfl
theorem errIs (op : Int) (h : 17 ≤ op ∧ op ≤ 27) : isErr op = 0 := if_pos h

def tab : Nat → Int
  | 0 => 17 | 1 => 18 | 2 => 19 | 3 => 22 | 4 => 20 | 5 => 21 | 6 => 23 | 7 => 26 | 8 => 24 | _ => 25
def Cells (B : Nat) (wr : World) : Prop := B < wr.heap.size ∧ ∀ j, j < 10 → wr.cell? ⟨B, j, none⟩ = some (.int .u8 (tab j))
theorem Cells.new {B : Nat} {w w' : World} (h : Cells B w) (k : New w w') : Cells B w' :=
  ⟨Nat.lt_of_lt_of_le h.1 k.size, fun j hj => (k.cell (p := ⟨B, j, none⟩) h.1).trans (h.2 j hj)⟩
theorem Cells.made (w : World) (t : TypeId) : Cells w.heap.size (w.alloc (.cells #[.int .u8 17, .int .u8 18, .int .u8 19, .int .u8 22, .int .u8 20, .int .u8 21, .int .u8 23, .int .u8 26, .int .u8 24, .int .u8 25] t)) := by
  refine ⟨by simp, fun j hj => ?_⟩
  have h : j = 0 ∨ j = 1 ∨ j = 2 ∨ j = 3 ∨ j = 4 ∨ j = 5 ∨ j = 6 ∨ j = 7 ∨ j = 8 ∨ j = 9 := by omega
  rcases h with rfl | rfl | rfl | rfl | rfl | rfl | rfl | rfl | rfl | rfl <;> simp [go_sem, tab]

set_option maxRecDepth 100000 in
set_option maxHeartbeats 1000000 in
theorem parts_false_zero (a b : Int) (a0 : 0 ≤ a) (a1 : a ≤ 18446744073709551615) (b0 : 0 ≤ b) (b1 : b ≤ 18446744073709551615) (f1 : doAns 2 false (doAns 1 false a b) b = a) (f2 : doAns 1 false (doAns 1 false a b) (doAns 13 false b a) = a) (hz : (b == 0) = true) (hz' : (b != 0) = false) (f3 : doErr 4 false b = 113) (f4 : doErr 5 false b = 113) (w : World) :
    Calls Try.prog 6 #[.bool false, .int .u64 a, .int .u64 b] w fun e w' => e = .returned (.bool true) ∧ New w w' := by
  have f5 := is18 false a b
  have f6 := is22 false a b
  have f7 := is21 false a b
  have f8 := is26 false a b
  have f9 := is25 false a b
  have f10 := errIs
  go_enter Try.func6, Try.ntmps6
  go_wp2_with (first
    | (go_at_call 8; refine (awake_any _).mono ?_; rintro e w1 ⟨rfl, hb1⟩; have hn := New.then (a := w) (by go_grown) hb1)
    | (go_at_call 9; refine (alu.Do_any _ _ _ _ _ (by first | assumption | omega | exact (doAns_bd _ _ _ _).1) (by first | assumption | omega | exact (doAns_bd _ _ _ _).2) (by first | assumption | omega | exact (doAns_bd _ _ _ _).1) (by first | assumption | omega | exact (doAns_bd _ _ _ _).2)).mono ?_; rintro e w1 ⟨rfl, hb1⟩; have hn := New.then (a := w) (by go_grown) hb1))
  obtain ⟨Bk, hBk⟩ : ∃ Bk, Bk = w1.heap.size := ⟨_, rfl⟩
  have hcells := Cells.made w1 34
  have hn1 : New w (w1.alloc (.cells #[.int .u8 17, .int .u8 18, .int .u8 19, .int .u8 22, .int .u8 20, .int .u8 21, .int .u8 23, .int .u8 26, .int .u8 24, .int .u8 25] 34)) := Below.alloc hn hn.size _
  rw [← hBk] at hcells ⊢
  clear hBk
  go_loopw [26] (fun i wr => ∃ k : Nat, k ≤ 5 ∧ i = .int .i64 k ∧ New w wr ∧ Cells Bk wr) (fun i _ => 5 - (intOf i).toNat)
  case atStart => exact ⟨0, Nat.zero_le _, rfl, hn1, hcells⟩
  case round =>
    clear hn1 hcells
    obtain ⟨k, hk, rfl, hn, hcells⟩ := hrel
    have hk3 : k = 0 ∨ k = 1 ∨ k = 2 ∨ k = 3 ∨ k = 4 ∨ k = 5 := by omega
    have hlt := hcells.1
    clear hk
    rcases hk3 with rfl | rfl | rfl | rfl | rfl | rfl
    · have e0 := hcells.2 0 (by decide)
      have e1 := hcells.2 1 (by decide)
      simp only [tab] at e0 e1
      go_wp2_with (go_at_call 11; refine (alu.Is_any _ _ _ _ _ a0 a1 b0 b1).mono ?_; rintro e w2 ⟨rfl, hb2⟩; obtain ⟨hc2, hf2⟩ := bcell hb2; have hn := New.then (a := w) (by go_grown) hb2; have hcells := hcells.new hb2)
      go_roundw
      case rel => exact ⟨1, by omega, rfl, hn, hcells⟩
      case measure => simp [intOf]
    · have e0 := hcells.2 2 (by decide)
      have e1 := hcells.2 3 (by decide)
      simp only [tab] at e0 e1
      go_wp2_with (go_at_call 11; refine (alu.Is_any _ _ _ _ _ a0 a1 b0 b1).mono ?_; rintro e w2 ⟨rfl, hb2⟩; obtain ⟨hc2, hf2⟩ := bcell hb2; have hn := New.then (a := w) (by go_grown) hb2; have hcells := hcells.new hb2)
      go_roundw
      case rel => exact ⟨2, by omega, rfl, hn, hcells⟩
      case measure => simp [intOf]
    · have e0 := hcells.2 4 (by decide)
      have e1 := hcells.2 5 (by decide)
      simp only [tab] at e0 e1
      go_wp2_with (go_at_call 11; refine (alu.Is_any _ _ _ _ _ a0 a1 b0 b1).mono ?_; rintro e w2 ⟨rfl, hb2⟩; obtain ⟨hc2, hf2⟩ := bcell hb2; have hn := New.then (a := w) (by go_grown) hb2; have hcells := hcells.new hb2)
      go_roundw
      case rel => exact ⟨3, by omega, rfl, hn, hcells⟩
      case measure => simp [intOf]
    · have e0 := hcells.2 6 (by decide)
      have e1 := hcells.2 7 (by decide)
      simp only [tab] at e0 e1
      go_wp2_with (go_at_call 11; refine (alu.Is_any _ _ _ _ _ a0 a1 b0 b1).mono ?_; rintro e w2 ⟨rfl, hb2⟩; obtain ⟨hc2, hf2⟩ := bcell hb2; have hn := New.then (a := w) (by go_grown) hb2; have hcells := hcells.new hb2)
      go_roundw
      case rel => exact ⟨4, by omega, rfl, hn, hcells⟩
      case measure => simp [intOf]
    · have e0 := hcells.2 8 (by decide)
      have e1 := hcells.2 9 (by decide)
      simp only [tab] at e0 e1
      go_wp2_with (go_at_call 11; refine (alu.Is_any _ _ _ _ _ a0 a1 b0 b1).mono ?_; rintro e w2 ⟨rfl, hb2⟩; obtain ⟨hc2, hf2⟩ := bcell hb2; have hn := New.then (a := w) (by go_grown) hb2; have hcells := hcells.new hb2)
      go_roundw
      case rel => exact ⟨5, by omega, rfl, hn, hcells⟩
      case measure => simp [intOf]
    · go_wp2
      go_ret
      exact ⟨rfl, hn⟩

set_option maxRecDepth 100000 in
set_option maxHeartbeats 1000000 in
theorem parts_false_more (a b : Int) (a0 : 0 ≤ a) (a1 : a ≤ 18446744073709551615) (b0 : 0 ≤ b) (b1 : b ≤ 18446744073709551615) (f1 : doAns 2 false (doAns 1 false a b) b = a) (f2 : doAns 1 false (doAns 1 false a b) (doAns 13 false b a) = a) (hz : (b == 0) = false) (hz' : (b != 0) = true) (f3 : doErr 4 false b = 0) (f4 : doErr 5 false b = 0) (f11 : doAns 1 false (doAns 3 false (doAns 4 false a b) b) (doAns 5 false a b) = a) (f12 : doAns 5 false a b < b) (w : World) :
    Calls Try.prog 6 #[.bool false, .int .u64 a, .int .u64 b] w fun e w' => e = .returned (.bool true) ∧ New w w' := by
  have f5 := is18 false a b
  have f6 := is22 false a b
  have f7 := is21 false a b
  have f8 := is26 false a b
  have f9 := is25 false a b
  have f10 := errIs
  go_enter Try.func6, Try.ntmps6
  go_wp2_with (first
    | (go_at_call 8; refine (awake_any _).mono ?_; rintro e w1 ⟨rfl, hb1⟩; have hn := New.then (a := w) (by go_grown) hb1)
    | (go_at_call 9; refine (alu.Do_any _ _ _ _ _ (by first | assumption | omega | exact (doAns_bd _ _ _ _).1) (by first | assumption | omega | exact (doAns_bd _ _ _ _).2) (by first | assumption | omega | exact (doAns_bd _ _ _ _).1) (by first | assumption | omega | exact (doAns_bd _ _ _ _).2)).mono ?_; rintro e w1 ⟨rfl, hb1⟩; have hn := New.then (a := w) (by go_grown) hb1))
  obtain ⟨Bk, hBk⟩ : ∃ Bk, Bk = w1.heap.size := ⟨_, rfl⟩
  have hcells := Cells.made w1 34
  have hn1 : New w (w1.alloc (.cells #[.int .u8 17, .int .u8 18, .int .u8 19, .int .u8 22, .int .u8 20, .int .u8 21, .int .u8 23, .int .u8 26, .int .u8 24, .int .u8 25] 34)) := Below.alloc hn hn.size _
  rw [← hBk] at hcells ⊢
  clear hBk
  go_loopw [26] (fun i wr => ∃ k : Nat, k ≤ 5 ∧ i = .int .i64 k ∧ New w wr ∧ Cells Bk wr) (fun i _ => 5 - (intOf i).toNat)
  case atStart => exact ⟨0, Nat.zero_le _, rfl, hn1, hcells⟩
  case round =>
    clear hn1 hcells
    obtain ⟨k, hk, rfl, hn, hcells⟩ := hrel
    have hk3 : k = 0 ∨ k = 1 ∨ k = 2 ∨ k = 3 ∨ k = 4 ∨ k = 5 := by omega
    have hlt := hcells.1
    clear hk
    rcases hk3 with rfl | rfl | rfl | rfl | rfl | rfl
    · have e0 := hcells.2 0 (by decide)
      have e1 := hcells.2 1 (by decide)
      simp only [tab] at e0 e1
      go_wp2_with (go_at_call 11; refine (alu.Is_any _ _ _ _ _ a0 a1 b0 b1).mono ?_; rintro e w2 ⟨rfl, hb2⟩; obtain ⟨hc2, hf2⟩ := bcell hb2; have hn := New.then (a := w) (by go_grown) hb2; have hcells := hcells.new hb2)
      go_roundw
      case rel => exact ⟨1, by omega, rfl, hn, hcells⟩
      case measure => simp [intOf]
    · have e0 := hcells.2 2 (by decide)
      have e1 := hcells.2 3 (by decide)
      simp only [tab] at e0 e1
      go_wp2_with (go_at_call 11; refine (alu.Is_any _ _ _ _ _ a0 a1 b0 b1).mono ?_; rintro e w2 ⟨rfl, hb2⟩; obtain ⟨hc2, hf2⟩ := bcell hb2; have hn := New.then (a := w) (by go_grown) hb2; have hcells := hcells.new hb2)
      go_roundw
      case rel => exact ⟨2, by omega, rfl, hn, hcells⟩
      case measure => simp [intOf]
    · have e0 := hcells.2 4 (by decide)
      have e1 := hcells.2 5 (by decide)
      simp only [tab] at e0 e1
      go_wp2_with (go_at_call 11; refine (alu.Is_any _ _ _ _ _ a0 a1 b0 b1).mono ?_; rintro e w2 ⟨rfl, hb2⟩; obtain ⟨hc2, hf2⟩ := bcell hb2; have hn := New.then (a := w) (by go_grown) hb2; have hcells := hcells.new hb2)
      go_roundw
      case rel => exact ⟨3, by omega, rfl, hn, hcells⟩
      case measure => simp [intOf]
    · have e0 := hcells.2 6 (by decide)
      have e1 := hcells.2 7 (by decide)
      simp only [tab] at e0 e1
      go_wp2_with (go_at_call 11; refine (alu.Is_any _ _ _ _ _ a0 a1 b0 b1).mono ?_; rintro e w2 ⟨rfl, hb2⟩; obtain ⟨hc2, hf2⟩ := bcell hb2; have hn := New.then (a := w) (by go_grown) hb2; have hcells := hcells.new hb2)
      go_roundw
      case rel => exact ⟨4, by omega, rfl, hn, hcells⟩
      case measure => simp [intOf]
    · have e0 := hcells.2 8 (by decide)
      have e1 := hcells.2 9 (by decide)
      simp only [tab] at e0 e1
      go_wp2_with (go_at_call 11; refine (alu.Is_any _ _ _ _ _ a0 a1 b0 b1).mono ?_; rintro e w2 ⟨rfl, hb2⟩; obtain ⟨hc2, hf2⟩ := bcell hb2; have hn := New.then (a := w) (by go_grown) hb2; have hcells := hcells.new hb2)
      go_roundw
      case rel => exact ⟨5, by omega, rfl, hn, hcells⟩
      case measure => simp [intOf]
    · go_wp2
      go_ret
      exact ⟨rfl, hn⟩

set_option maxRecDepth 100000 in
set_option maxHeartbeats 1000000 in
theorem parts_true_zero (a b : Int) (a0 : 0 ≤ a) (a1 : a ≤ 18446744073709551615) (b0 : 0 ≤ b) (b1 : b ≤ 18446744073709551615) (f1 : doAns 2 true (doAns 1 true a b) b = a % 4294967296) (f2 : doAns 1 true (doAns 1 true a b) (doAns 13 true b a) = a % 4294967296) (hz : (b % 4294967296 == 0) = true) (hz' : (b % 4294967296 != 0) = false) (f3 : doErr 4 true b = 113) (f4 : doErr 5 true b = 113) (w : World) :
    Calls Try.prog 6 #[.bool true, .int .u64 a, .int .u64 b] w fun e w' => e = .returned (.bool true) ∧ New w w' := by
  have f5 := is18 true a b
  have f6 := is22 true a b
  have f7 := is21 true a b
  have f8 := is26 true a b
  have f9 := is25 true a b
  have f10 := errIs
  have hA := ref.low_any a a0 a1
  have hB := ref.low_any b b0 b1
  go_enter Try.func6, Try.ntmps6
  go_wp2_with (first
    | (go_at_call 8; refine (awake_any _).mono ?_; rintro e w1 ⟨rfl, hb1⟩; have hn := New.then (a := w) (by go_grown) hb1)
    | (go_at_call 9; refine (alu.Do_any _ _ _ _ _ (by first | assumption | omega | exact (doAns_bd _ _ _ _).1) (by first | assumption | omega | exact (doAns_bd _ _ _ _).2) (by first | assumption | omega | exact (doAns_bd _ _ _ _).1) (by first | assumption | omega | exact (doAns_bd _ _ _ _).2)).mono ?_; rintro e w1 ⟨rfl, hb1⟩; have hn := New.then (a := w) (by go_grown) hb1))
  obtain ⟨Bk, hBk⟩ : ∃ Bk, Bk = w1.heap.size := ⟨_, rfl⟩
  have hcells := Cells.made w1 34
  have hn1 : New w (w1.alloc (.cells #[.int .u8 17, .int .u8 18, .int .u8 19, .int .u8 22, .int .u8 20, .int .u8 21, .int .u8 23, .int .u8 26, .int .u8 24, .int .u8 25] 34)) := Below.alloc hn hn.size _
  rw [← hBk] at hcells ⊢
  clear hBk
  go_loopw [26] (fun i wr => ∃ k : Nat, k ≤ 5 ∧ i = .int .i64 k ∧ New w wr ∧ Cells Bk wr) (fun i _ => 5 - (intOf i).toNat)
  case atStart => exact ⟨0, Nat.zero_le _, rfl, hn1, hcells⟩
  case round =>
    clear hn1 hcells
    obtain ⟨k, hk, rfl, hn, hcells⟩ := hrel
    have hk3 : k = 0 ∨ k = 1 ∨ k = 2 ∨ k = 3 ∨ k = 4 ∨ k = 5 := by omega
    have hlt := hcells.1
    clear hk
    rcases hk3 with rfl | rfl | rfl | rfl | rfl | rfl
    · have e0 := hcells.2 0 (by decide)
      have e1 := hcells.2 1 (by decide)
      simp only [tab] at e0 e1
      go_wp2_with (go_at_call 11; refine (alu.Is_any _ _ _ _ _ a0 a1 b0 b1).mono ?_; rintro e w2 ⟨rfl, hb2⟩; obtain ⟨hc2, hf2⟩ := bcell hb2; have hn := New.then (a := w) (by go_grown) hb2; have hcells := hcells.new hb2)
      go_roundw
      case rel => exact ⟨1, by omega, rfl, hn, hcells⟩
      case measure => simp [intOf]
    · have e0 := hcells.2 2 (by decide)
      have e1 := hcells.2 3 (by decide)
      simp only [tab] at e0 e1
      go_wp2_with (go_at_call 11; refine (alu.Is_any _ _ _ _ _ a0 a1 b0 b1).mono ?_; rintro e w2 ⟨rfl, hb2⟩; obtain ⟨hc2, hf2⟩ := bcell hb2; have hn := New.then (a := w) (by go_grown) hb2; have hcells := hcells.new hb2)
      go_roundw
      case rel => exact ⟨2, by omega, rfl, hn, hcells⟩
      case measure => simp [intOf]
    · have e0 := hcells.2 4 (by decide)
      have e1 := hcells.2 5 (by decide)
      simp only [tab] at e0 e1
      go_wp2_with (go_at_call 11; refine (alu.Is_any _ _ _ _ _ a0 a1 b0 b1).mono ?_; rintro e w2 ⟨rfl, hb2⟩; obtain ⟨hc2, hf2⟩ := bcell hb2; have hn := New.then (a := w) (by go_grown) hb2; have hcells := hcells.new hb2)
      go_roundw
      case rel => exact ⟨3, by omega, rfl, hn, hcells⟩
      case measure => simp [intOf]
    · have e0 := hcells.2 6 (by decide)
      have e1 := hcells.2 7 (by decide)
      simp only [tab] at e0 e1
      go_wp2_with (go_at_call 11; refine (alu.Is_any _ _ _ _ _ a0 a1 b0 b1).mono ?_; rintro e w2 ⟨rfl, hb2⟩; obtain ⟨hc2, hf2⟩ := bcell hb2; have hn := New.then (a := w) (by go_grown) hb2; have hcells := hcells.new hb2)
      go_roundw
      case rel => exact ⟨4, by omega, rfl, hn, hcells⟩
      case measure => simp [intOf]
    · have e0 := hcells.2 8 (by decide)
      have e1 := hcells.2 9 (by decide)
      simp only [tab] at e0 e1
      go_wp2_with (go_at_call 11; refine (alu.Is_any _ _ _ _ _ a0 a1 b0 b1).mono ?_; rintro e w2 ⟨rfl, hb2⟩; obtain ⟨hc2, hf2⟩ := bcell hb2; have hn := New.then (a := w) (by go_grown) hb2; have hcells := hcells.new hb2)
      go_roundw
      case rel => exact ⟨5, by omega, rfl, hn, hcells⟩
      case measure => simp [intOf]
    · go_wp2
      go_ret
      exact ⟨rfl, hn⟩

set_option maxRecDepth 100000 in
set_option maxHeartbeats 1000000 in
theorem parts_true_more (a b : Int) (a0 : 0 ≤ a) (a1 : a ≤ 18446744073709551615) (b0 : 0 ≤ b) (b1 : b ≤ 18446744073709551615) (f1 : doAns 2 true (doAns 1 true a b) b = a % 4294967296) (f2 : doAns 1 true (doAns 1 true a b) (doAns 13 true b a) = a % 4294967296) (hz : (b % 4294967296 == 0) = false) (hz' : (b % 4294967296 != 0) = true) (f3 : doErr 4 true b = 0) (f4 : doErr 5 true b = 0) (f11 : doAns 1 true (doAns 3 true (doAns 4 true a b) b) (doAns 5 true a b) = a % 4294967296) (f12 : doAns 5 true a b < b % 4294967296) (w : World) :
    Calls Try.prog 6 #[.bool true, .int .u64 a, .int .u64 b] w fun e w' => e = .returned (.bool true) ∧ New w w' := by
  have f5 := is18 true a b
  have f6 := is22 true a b
  have f7 := is21 true a b
  have f8 := is26 true a b
  have f9 := is25 true a b
  have f10 := errIs
  have hA := ref.low_any a a0 a1
  have hB := ref.low_any b b0 b1
  go_enter Try.func6, Try.ntmps6
  go_wp2_with (first
    | (go_at_call 8; refine (awake_any _).mono ?_; rintro e w1 ⟨rfl, hb1⟩; have hn := New.then (a := w) (by go_grown) hb1)
    | (go_at_call 9; refine (alu.Do_any _ _ _ _ _ (by first | assumption | omega | exact (doAns_bd _ _ _ _).1) (by first | assumption | omega | exact (doAns_bd _ _ _ _).2) (by first | assumption | omega | exact (doAns_bd _ _ _ _).1) (by first | assumption | omega | exact (doAns_bd _ _ _ _).2)).mono ?_; rintro e w1 ⟨rfl, hb1⟩; have hn := New.then (a := w) (by go_grown) hb1))
  obtain ⟨Bk, hBk⟩ : ∃ Bk, Bk = w1.heap.size := ⟨_, rfl⟩
  have hcells := Cells.made w1 34
  have hn1 : New w (w1.alloc (.cells #[.int .u8 17, .int .u8 18, .int .u8 19, .int .u8 22, .int .u8 20, .int .u8 21, .int .u8 23, .int .u8 26, .int .u8 24, .int .u8 25] 34)) := Below.alloc hn hn.size _
  rw [← hBk] at hcells ⊢
  clear hBk
  go_loopw [26] (fun i wr => ∃ k : Nat, k ≤ 5 ∧ i = .int .i64 k ∧ New w wr ∧ Cells Bk wr) (fun i _ => 5 - (intOf i).toNat)
  case atStart => exact ⟨0, Nat.zero_le _, rfl, hn1, hcells⟩
  case round =>
    clear hn1 hcells
    obtain ⟨k, hk, rfl, hn, hcells⟩ := hrel
    have hk3 : k = 0 ∨ k = 1 ∨ k = 2 ∨ k = 3 ∨ k = 4 ∨ k = 5 := by omega
    have hlt := hcells.1
    clear hk
    rcases hk3 with rfl | rfl | rfl | rfl | rfl | rfl
    · have e0 := hcells.2 0 (by decide)
      have e1 := hcells.2 1 (by decide)
      simp only [tab] at e0 e1
      go_wp2_with (go_at_call 11; refine (alu.Is_any _ _ _ _ _ a0 a1 b0 b1).mono ?_; rintro e w2 ⟨rfl, hb2⟩; obtain ⟨hc2, hf2⟩ := bcell hb2; have hn := New.then (a := w) (by go_grown) hb2; have hcells := hcells.new hb2)
      go_roundw
      case rel => exact ⟨1, by omega, rfl, hn, hcells⟩
      case measure => simp [intOf]
    · have e0 := hcells.2 2 (by decide)
      have e1 := hcells.2 3 (by decide)
      simp only [tab] at e0 e1
      go_wp2_with (go_at_call 11; refine (alu.Is_any _ _ _ _ _ a0 a1 b0 b1).mono ?_; rintro e w2 ⟨rfl, hb2⟩; obtain ⟨hc2, hf2⟩ := bcell hb2; have hn := New.then (a := w) (by go_grown) hb2; have hcells := hcells.new hb2)
      go_roundw
      case rel => exact ⟨2, by omega, rfl, hn, hcells⟩
      case measure => simp [intOf]
    · have e0 := hcells.2 4 (by decide)
      have e1 := hcells.2 5 (by decide)
      simp only [tab] at e0 e1
      go_wp2_with (go_at_call 11; refine (alu.Is_any _ _ _ _ _ a0 a1 b0 b1).mono ?_; rintro e w2 ⟨rfl, hb2⟩; obtain ⟨hc2, hf2⟩ := bcell hb2; have hn := New.then (a := w) (by go_grown) hb2; have hcells := hcells.new hb2)
      go_roundw
      case rel => exact ⟨3, by omega, rfl, hn, hcells⟩
      case measure => simp [intOf]
    · have e0 := hcells.2 6 (by decide)
      have e1 := hcells.2 7 (by decide)
      simp only [tab] at e0 e1
      go_wp2_with (go_at_call 11; refine (alu.Is_any _ _ _ _ _ a0 a1 b0 b1).mono ?_; rintro e w2 ⟨rfl, hb2⟩; obtain ⟨hc2, hf2⟩ := bcell hb2; have hn := New.then (a := w) (by go_grown) hb2; have hcells := hcells.new hb2)
      go_roundw
      case rel => exact ⟨4, by omega, rfl, hn, hcells⟩
      case measure => simp [intOf]
    · have e0 := hcells.2 8 (by decide)
      have e1 := hcells.2 9 (by decide)
      simp only [tab] at e0 e1
      go_wp2_with (go_at_call 11; refine (alu.Is_any _ _ _ _ _ a0 a1 b0 b1).mono ?_; rintro e w2 ⟨rfl, hb2⟩; obtain ⟨hc2, hf2⟩ := bcell hb2; have hn := New.then (a := w) (by go_grown) hb2; have hcells := hcells.new hb2)
      go_roundw
      case rel => exact ⟨5, by omega, rfl, hn, hcells⟩
      case measure => simp [intOf]
    · go_wp2
      go_ret
      exact ⟨rfl, hn⟩

end Go.Proofs.Ytkegoiibhleflaa.laws
