/-
  packet's numbers, byte by byte: the iterator, walked.
-/
import Derived.Test.YtgddfclclibcgaaDoorPkM
import Derived.Test.YtgddfclclibcgaaDoorRangeA
import Derived.Deep.RegionHeld3
namespace Go.Proofs.YtgddfclclibcgaaDoor.pk
open Go.RowKit Go.Shelf Go.Proofs.YtgddfclclibcgaaDoor.mem Go.Proofs.YtgddfclclibcgaaDoor.kit Go.Proofs.YtgddfclclibcgaaDoor.rng
set_option linter.unusedVariables false
attribute [local go_sem] Oper.semAt_some

theorem cells_ne {W : World} {b : Nat} {t : TypeId} {cs : Array Value} (h : Blk W b t cs) {l : Nat} {o : Obj} (hl : W.heap[l]? = some o) (ho : o.isCells = false) : b ≠ l := by
  rintro rfl
  unfold Blk at h
  rw [h] at hl
  injection hl with hl
  subst hl
  cases ho
theorem ch_put {W : World} {l : Nat} (o' : Obj) : Ch (fun j => j = l) W (W.putObj l o') :=
  ⟨rfl, rfl, rfl, by simp, fun k _ hn => World.putObj_heap_other hn⟩
theorem blk_put {W : World} {b : Nat} {t : TypeId} {cs : Array Value} (h : Blk W b t cs) {l : Nat} {o : Obj} (o' : Obj) (hl : W.heap[l]? = some o) (ho : o.isCells = false) : Blk (W.putObj l o') b t cs :=
  h.ch (ch_put o') (cells_ne h hl ho)

set_option maxRecDepth 100000 in
set_option maxHeartbeats 4000000 in
theorem each_in (I : Nat → World → Prop) (g o k c : Nat) (hk : 1 ≤ k ∧ k ≤ 8) (lp D : Nat) (R : Loop) (W : World)
    (hY : ∀ (pre : List Nat) (x : Nat) (W1 : World), (I pre.length W1 ∧ x = pre.length ∧ pre.length < k) → Bk lp D R W1 → YieldAt Fence.wide (3 - 1 - 1) Tryd.prog lp #[.int .i64 (x : Int), .int .i64 ((8 * (k - 1 - x) : Nat) : Int)] W1 fun e W' => e = .returned (.bool true) ∧ I (pre ++ [x]).length W' ∧ Bk lp D R W')
    (h0 : I 0 W) (hb : Bk lp D R W) :
    CallsIn Fence.wide (3 - 1) Tryd.prog 23 (#[.slice (some ⟨g, o, none⟩) k c] ++ #[.func (.yield lp) #[] #[]] ++ #[]) W fun e W' => (∃ v, e = .returned v) ∧ ∃ xs : List Nat, xs.length = k ∧ I xs.length W' ∧ Bk lp D R W' := by
  refine callsIn_wide.2 ?_
  have HY := Lib.hid hY
  have H0 := Lib.hid h0
  have HB := Lib.hid hb
  have HK := Lib.hid hk
  clear hY h0 hb
  show Calls Tryd.prog 23 #[.slice (some ⟨g, o, none⟩) k c, .func (.yield lp) #[] #[]] W _
  go_enter Tryd.func23, Tryd.ntmps23
  go_wp2
  go_loopw [7] (fun i wr => ∃ x : Nat, x ≤ k ∧ i = .int .i64 (x : Int) ∧ I x wr ∧ Bk lp D R wr) (fun i _ => k - (intOf i).toNat)
  case atStart => exact ⟨0, Nat.zero_le _, rfl, H0.out, HB.out⟩
  case round =>
    clear H0 HB
    obtain ⟨x, hx, rfl, hi, hbk⟩ := hrel
    have HI := Lib.hid hi
    have HBK := Lib.hid hbk
    clear hi hbk
    by_cases hlt : x < k
    · have t3 : (x : Int) < (k : Int) := by omega
      have e2 : (8 : Int) * ((k : Int) - 1 - (x : Int)) = ((8 * (k - 1 - x) : Nat) : Int) := by omega
      obtain ⟨z, hz⟩ : ∃ z, 8 * (k - 1 - x) = z := ⟨_, rfl⟩
      rw [hz] at e2
      have hz2 : z ≤ 56 := by omega
      have HZ := Lib.hid hz
      clear hz
      obtain ⟨fn, tmps, assign, body, hy, hYR⟩ := HY.out (List.replicate x 0) x wr ⟨by rw [List.length_replicate]; exact HI.out, by rw [List.length_replicate], by rw [List.length_replicate]; exact hlt⟩ HBK.out
      rw [List.length_append, List.length_replicate] at hYR
      rw [HZ.out] at hy
      refine (wpIn_wide (n := 3 - 1)).1 ?_
      gi_wp2
      refine hYR.mono ?_
      rintro e W5 ⟨rfl, hi5, hbk5⟩
      have HI5 := Lib.hid hi5
      have HBK5 := Lib.hid hbk5
      clear hi5 hbk5 hYR hy
      gi_wp2
      exact ⟨⟨x + 1, by omega, by go_num, HI5.out, HBK5.out⟩, by simp [intOf]; omega⟩
    · obtain rfl : x = k := by omega
      have t3 : ¬ (x : Int) < (x : Int) := by omega
      go_wp2
      go_end0
      exact ⟨⟨_, rfl⟩, List.replicate x 0, by simp, by rw [List.length_replicate]; exact HI.out, HBK.out⟩
end Go.Proofs.YtgddfclclibcgaaDoor.pk
