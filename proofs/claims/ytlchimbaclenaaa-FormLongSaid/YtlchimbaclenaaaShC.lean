/-
  Contracts of shape: the four questions made.
-/
import Derived.Test.YtlchimbaclenaaaShB
namespace Go.Proofs.Ytlchimbaclenaaa.sh
open Go.RowKit Go.Proofs.Ytlchimbaclenaaa.mem Go.Proofs.Ytlchimbaclenaaa.kit Go.Proofs.Ytlchimbaclenaaa.ins
set_option linter.unusedVariables false

/-- A question made: a function that holds the filter's cell. -/
def Made (w : World) (fn : Nat) (A : Option Addr) (n c : Nat) (e : Ending) (w' : World) : Prop :=
  ∃ b, e = .returned (.func (.func fn) #[] #[.pointer (some ⟨b, 0, none⟩)]) ∧ w'.cell? ⟨b, 0, none⟩ = some (.slice A n c) ∧ w.heap.size ≤ b ∧ b < w'.heap.size ∧ New w w'
theorem made_of {w : World} (fn : Nat) (A : Option Addr) (n c : Nat) (t : TypeId) : Made w fn A n c (.returned (.func (.func fn) #[] #[.pointer (some ⟨w.heap.size, 0, none⟩)])) (w.alloc (.cells #[.slice A n c] t)) :=
  ⟨_, rfl, (Blk.new w t #[.slice A n c]).cell 0, Nat.le_refl _, by simp, (new_refl w).alloc (Nat.le_refl _) _⟩

theorem right_made (A : Option Addr) (n c : Nat) (w : World) : Calls Try.prog 17 #[.slice A n c] w (Made w 28 A n c) := by
  have hmf : ∀ (fn : Fn) (first cap : Array Value) (w : World), (Instr.makeFunc fn first cap).run Try.prog w = .ok (.func fn first cap) w := fun _ _ _ _ => rfl
  go_enter Try.func17, Try.ntmps17
  go_wp2
  go_ret
  exact made_of _ A n c _
theorem forward_made (A : Option Addr) (n c : Nat) (w : World) : Calls Try.prog 18 #[.slice A n c] w (Made w 30 A n c) := by
  have hmf : ∀ (fn : Fn) (first cap : Array Value) (w : World), (Instr.makeFunc fn first cap).run Try.prog w = .ok (.func fn first cap) w := fun _ _ _ _ => rfl
  go_enter Try.func18, Try.ntmps18
  go_wp2
  go_ret
  exact made_of _ A n c _
theorem ended_made (A : Option Addr) (n c : Nat) (w : World) : Calls Try.prog 19 #[.slice A n c] w (Made w 31 A n c) := by
  have hmf : ∀ (fn : Fn) (first cap : Array Value) (w : World), (Instr.makeFunc fn first cap).run Try.prog w = .ok (.func fn first cap) w := fun _ _ _ _ => rfl
  go_enter Try.func19, Try.ntmps19
  go_wp2
  go_ret
  exact made_of _ A n c _

theorem bool_info : (Try.prog.info? 4).map (fun i => (i.zero, i.size, i.bytes)) = some (some (.bool false), 1, 1) := by kernel_rfl
theorem make_bools (n : Nat) (hc : n ≤ 1099511627776) (W : World) :
    (Instr.makeSlice 37 (.int .i64 (n : Int)) (.int .i64 (n : Int))).run Try.prog W = .ok (.slice (some ⟨W.heap.size, 0, none⟩) n n) (W.alloc (.cells (zrow (.bool false) n) 4)) := by
  obtain ⟨i0, hi, hz0, hz1, hz2⟩ := info_parts bool_info
  have hr := run_make (P := Try.prog) W 37 4 i0 _ Try.underlying37 hi hz0 .i64 .i64 n n (by omega) (by omega) (by rw [hz2]; omega) (by omega)
  simp only [Int.toNat_natCast, hz1, Nat.mul_one] at hr
  exact hr
theorem zrow_at {n j : Nat} (hj : j < n) : (zrow (.bool false) n)[j]? = some (.bool false) := by simp [zrow, madeCells, Value.cells, hj, Nat.mod_one]
theorem bo_made (w : World) (n : Nat) : Bo (w.alloc (.cells (zrow (.bool false) n) 4)) w.heap.size n (fun _ => false) :=
  ⟨_, Blk.new w _ _, zrow_size _ _, fun j hj => zrow_at hj⟩

/-- The last question made: its row, in which the first place alone is come to. -/
def MadeC (w : World) (A : Option Addr) (n c : Nat) (e : Ending) (w' : World) : Prop :=
  ∃ b b3 g, e = .returned (.func (.func 32) #[] #[.pointer (some ⟨b3, 0, none⟩), .pointer (some ⟨b, 0, none⟩)]) ∧ w'.cell? ⟨b, 0, none⟩ = some (.slice A n c) ∧ w'.cell? ⟨b3, 0, none⟩ = some (.slice (some ⟨g, 0, none⟩) n n) ∧
    w.heap.size ≤ b ∧ w.heap.size ≤ g ∧ b ≠ g ∧ b3 ≠ g ∧ Bo w' g n (fun j => decide (j = 0)) ∧ New w w'

set_option maxRecDepth 100000 in
theorem comeTo_made (A : Option Addr) (n c : Nat) (w : World) (hn0 : 0 < n) (hn : n ≤ 1099511627776) : Calls Try.prog 20 #[.slice A n c] w (MadeC w A n c) := by
  have hmf : ∀ (fn : Fn) (first cap : Array Value) (w : World), (Instr.makeFunc fn first cap).run Try.prog w = .ok (.func fn first cap) w := fun _ _ _ _ => rfl
  have hmk := make_bools n hn
  have t0 : (0 : Int) < (n : Int) := by omega
  have hz := zrow_at hn0
  go_enter Try.func20, Try.ntmps20
  go_wp2
  go_ret
  obtain ⟨Z, hZ⟩ : ∃ Z, (zrow (.bool false) n).setIfInBounds 0 (.bool true) = Z := ⟨_, rfl⟩
  rw [hZ]
  have hZs : Z.size = n := by rw [← hZ, Array.size_setIfInBounds, zrow_size]
  have hZc : ∀ j, j < n → Z[j]? = some (.bool (decide (j = 0))) := fun j hj => by
    rw [← hZ]
    by_cases e : j = 0
    · subst e
      rw [Array.getElem?_setIfInBounds_self_of_lt (by rw [zrow_size]; exact hj)]
      rfl
    · rw [Array.getElem?_setIfInBounds_ne (fun h => e h.symm), zrow_at hj]
      simp [e]
  have e1 : (w.alloc (.cells #[.slice A n c] 22)).heap.size = w.heap.size + 1 := by simp
  have e2 : ((w.alloc (.cells #[.slice A n c] 22)).alloc (.cells Z 4)).heap.size = w.heap.size + 1 + 1 := by simp
  have hbo := (Blk.new (w.alloc (.cells #[.slice A n c] 22)) 4 Z).alloc (.cells #[.slice (some ⟨w.heap.size + 1, 0, none⟩) n n] 37)
  rw [e1] at hbo
  have hn1 : New w (((w.alloc (.cells #[.slice A n c] 22)).alloc (.cells Z 4)).alloc (.cells #[.slice (some ⟨w.heap.size + 1, 0, none⟩) n n] 37)) :=
    (((new_refl w).alloc (Nat.le_refl _) _).alloc (by simp) _).alloc (by simp; omega) _
  have hb0 := ((Blk.new w 22 #[.slice A n c]).alloc (.cells Z 4)).alloc (.cells #[.slice (some ⟨w.heap.size + 1, 0, none⟩) n n] 37)
  have hb3 := Blk.new ((w.alloc (.cells #[.slice A n c] 22)).alloc (.cells Z 4)) 37 #[.slice (some ⟨w.heap.size + 1, 0, none⟩) n n]
  rw [e2] at hb3
  exact ⟨w.heap.size, w.heap.size + 1 + 1, w.heap.size + 1, rfl, hb0.cell 0, hb3.cell 0, by omega, by omega, by omega, by omega, ⟨Z, hbo, hZs, hZc⟩, hn1⟩
end Go.Proofs.Ytlchimbaclenaaa.sh
