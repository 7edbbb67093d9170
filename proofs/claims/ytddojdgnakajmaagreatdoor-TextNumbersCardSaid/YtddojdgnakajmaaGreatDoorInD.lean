/-
  Contracts of ins: Right.
-/
import Derived.Test.YtddojdgnakajmaaGreatDoorInA
import Derived.Deep.RegionHeld3
namespace Go.Proofs.YtddojdgnakajmaaGreatDoor.ins
open Go.RowKit Go.Proofs.YtddojdgnakajmaaGreatDoor.mem Go.Proofs.YtddojdgnakajmaaGreatDoor.kit
set_option linter.unusedVariables false
set_option linter.unusedSimpArgs false

/-- An instruction's eight cells. -/
def Eight (w : World) (b k : Nat) (o : Int) (n : Bool) (d s : Int) (u : Bool) (f m z : Int) : Prop :=
  w.cell? ⟨b, k, none⟩ = some (.int .u8 o) ∧ w.cell? ⟨b, k + 1, none⟩ = some (.bool n) ∧ w.cell? ⟨b, k + 2, none⟩ = some (.int .i64 d) ∧ w.cell? ⟨b, k + 3, none⟩ = some (.int .i64 s) ∧ w.cell? ⟨b, k + 4, none⟩ = some (.bool u) ∧ w.cell? ⟨b, k + 5, none⟩ = some (.int .i64 f) ∧ w.cell? ⟨b, k + 6, none⟩ = some (.int .i64 m) ∧ w.cell? ⟨b, k + 7, none⟩ = some (.int .i64 z)

set_option maxRecDepth 100000 in
set_option maxHeartbeats 2000000 in
theorem right_of (F : Int) (o : Int) (n : Bool) (d s : Int) (u : Bool) (f m z : Int) (o' : Int) (n' : Bool) (d' s' : Int) (u' : Bool) (f' m' z' : Int) (w : World)
    (hF : fld o = F) (h1 : has F 1 = true) (E : Bool) (hE : sameB o n d s u f m z o' n' d' s' u' f' m' z' = E)
    (hO : ∀ W : World, Calls Tryz.prog 90 #[.int .u8 F, .agg #[.int .u8 o, .bool n, .int .i64 d, .int .i64 s, .bool u, .int .i64 f, .int .i64 m, .int .i64 z]] W fun e w' => e = .returned (.agg #[.int .u8 o', .bool n', .int .i64 d', .int .i64 s', .bool u', .int .i64 f', .int .i64 m', .int .i64 z']) ∧ New W w') :
    Calls Tryz.prog 33 #[.agg #[.int .u8 o, .bool n, .int .i64 d, .int .i64 s, .bool u, .int .i64 f, .int .i64 m, .int .i64 z]] w fun e w' => e = .returned (.bool (E && fitB F d s f m z)) ∧ New w w' := by
  have HF := Lib.hid hF
  have HO := Lib.hid hO
  have hq : ∀ W : World, (Op.equalIn 10000 41 (.agg #[.int .u8 o, .bool n, .int .i64 d, .int .i64 s, .bool u, .int .i64 f, .int .i64 m, .int .i64 z]) (.agg #[.int .u8 o', .bool n', .int .i64 d', .int .i64 s', .bool u', .int .i64 f', .int .i64 m', .int .i64 z'])).run Tryz.prog W = .ok E W := fun W => by rw [eq_ins, hE]
  have hx := Blk.new w 41 #[.int .u8 o, .bool n, .int .i64 d, .int .i64 s, .bool u, .int .i64 f, .int .i64 m, .int .i64 z]
  have hN := new1 w (.cells #[.int .u8 o, .bool n, .int .i64 d, .int .i64 s, .bool u, .int .i64 f, .int .i64 m, .int .i64 z] 41)
  have HX := Lib.hid hx
  have HN := Lib.hid hN
  clear hF hO hE hx hN
  rcases E with _ | _
  · go_enter Tryz.func33, Tryz.ntmps33
    go_wp2_with (go_at_call 88; refine (fieldsOf_any _ _).mono ?_; rintro e w1 ⟨rfl, rfl⟩; rw [HF.out])
    refine wp_region_held_drew (S := (fun w' => w'.cell? ⟨w.heap.size, 0, none⟩ = some (.int .u8 o) ∧ w'.cell? ⟨w.heap.size, 1, none⟩ = some (.bool n) ∧ w'.cell? ⟨w.heap.size, 2, none⟩ = some (.int .i64 d) ∧ w'.cell? ⟨w.heap.size, 3, none⟩ = some (.int .i64 s) ∧ w'.cell? ⟨w.heap.size, 4, none⟩ = some (.bool u) ∧ w'.cell? ⟨w.heap.size, 5, none⟩ = some (.int .i64 f) ∧ w'.cell? ⟨w.heap.size, 6, none⟩ = some (.int .i64 m) ∧ w'.cell? ⟨w.heap.size, 7, none⟩ = some (.int .i64 z))) (by kernel_rfl) ?_ (fun hHeld => ?_)
    · exact ⟨(HX.out.drew.cell 0).trans rfl, (HX.out.drew.cell 1).trans rfl, (HX.out.drew.cell 2).trans rfl, (HX.out.drew.cell 3).trans rfl, (HX.out.drew.cell 4).trans rfl, (HX.out.drew.cell 5).trans rfl, (HX.out.drew.cell 6).trans rfl, (HX.out.drew.cell 7).trans rfl⟩
    refine wpAnyH_take (i := 0) (v := ?v0) rfl (by kernel_rfl) (by kernel_rfl) (by kernel_rfl) (fun _ _ _ h => h) (Or.inl ⟨by kernel_rfl, ?y0⟩) hHeld ?r0
    case y0 => (intro w hSw; (try dsimp only at hSw); go_simp; (try with_reducible rfl))
    (try simp only [Act.put, List.setIfInBounds_toArray, List.set_cons_zero, List.set_cons_succ, List.getElem_toArray, List.getElem_cons_zero, List.getElem_cons_succ])
    refine wpAnyH_ready (rs := [1]) (by kernel_rfl) (by simp) ?_
    refine AllReadyH.cons rfl (fun K hK => ?_) AllReadyH.nil
    go_simp
    go_at_call 89
    (with_reducible refine (any_any _ _ _).mono ?_)
    rintro e w1 ⟨rfl, rfl⟩
    go_wp2_with fail
    refine hK.out _ _ ?_ (fun hHeld => ?_)
    · exact ⟨(HX.out.drew.cell 0).trans rfl, (HX.out.drew.cell 1).trans rfl, (HX.out.drew.cell 2).trans rfl, (HX.out.drew.cell 3).trans rfl, (HX.out.drew.cell 4).trans rfl, (HX.out.drew.cell 5).trans rfl, (HX.out.drew.cell 6).trans rfl, (HX.out.drew.cell 7).trans rfl⟩
    clear hK K
    (try simp only [Act.put, List.setIfInBounds_toArray, List.set_cons_zero, List.set_cons_succ, List.getElem_toArray, List.getElem_cons_zero, List.getElem_cons_succ])
    refine wpAnyH_take (i := 2) (v := ?v2) rfl (by kernel_rfl) (by kernel_rfl) (by kernel_rfl) (fun _ _ _ h => h) (Or.inl ⟨by kernel_rfl, ?y2⟩) hHeld ?r2
    case y2 => (intro w hSw; (try dsimp only at hSw); go_simp; (try with_reducible rfl))
    (try simp only [Act.put, List.setIfInBounds_toArray, List.set_cons_zero, List.set_cons_succ, List.getElem_toArray, List.getElem_cons_zero, List.getElem_cons_succ])
    refine wpAnyH_take (i := 3) (v := ?v3) rfl (by kernel_rfl) (by kernel_rfl) (by kernel_rfl) (fun _ _ _ h => h) (Or.inl ⟨by kernel_rfl, ?y3⟩) hHeld ?r3
    case y3 => (intro w hSw; (try dsimp only at hSw); go_simp; (try with_reducible rfl))
    (try simp only [Act.put, List.setIfInBounds_toArray, List.set_cons_zero, List.set_cons_succ, List.getElem_toArray, List.getElem_cons_zero, List.getElem_cons_succ])
    refine wpAnyH_take (i := 4) (v := ?v4) rfl (by kernel_rfl) (by kernel_rfl) (by kernel_rfl) (fun _ _ _ h => h) (Or.inl ⟨by kernel_rfl, ?y4⟩) hHeld ?r4
    case y4 => (intro w hSw; (try dsimp only at hSw); go_simp; (try with_reducible rfl))
    (try simp only [Act.put, List.setIfInBounds_toArray, List.set_cons_zero, List.set_cons_succ, List.getElem_toArray, List.getElem_cons_zero, List.getElem_cons_succ])
    refine wpAnyH_take (i := 5) (v := ?v5) rfl (by kernel_rfl) (by kernel_rfl) (by kernel_rfl) (fun _ _ _ h => h) (Or.inl ⟨by kernel_rfl, ?y5⟩) hHeld ?r5
    case y5 => (intro w hSw; (try dsimp only at hSw); go_simp; (try with_reducible rfl))
    (try simp only [Act.put, List.setIfInBounds_toArray, List.set_cons_zero, List.set_cons_succ, List.getElem_toArray, List.getElem_cons_zero, List.getElem_cons_succ])
    refine wpAnyH_ready (rs := [6]) (by kernel_rfl) (by simp) ?_
    refine AllReadyH.cons rfl (fun K hK => ?_) AllReadyH.nil
    go_simp
    go_at_call 90
    (with_reducible refine (HO.out _).mono ?_)
    rintro e w2 ⟨rfl, hn2⟩
    have hN2 := New.then (Below.drew HN.out) hn2
    have hB2 := HX.out.drew.below hn2 HX.out.drew.lt
    go_wp2_with fail
    refine hK.out _ _ ?_ (fun hHeld => ?_)
    · exact ⟨(hB2.cell 0).trans rfl, (hB2.cell 1).trans rfl, (hB2.cell 2).trans rfl, (hB2.cell 3).trans rfl, (hB2.cell 4).trans rfl, (hB2.cell 5).trans rfl, (hB2.cell 6).trans rfl, (hB2.cell 7).trans rfl⟩
    clear hK K
    (try simp only [Act.put, List.setIfInBounds_toArray, List.set_cons_zero, List.set_cons_succ, List.getElem_toArray, List.getElem_cons_zero, List.getElem_cons_succ])
    refine wpAnyH_take (i := 7) (v := ?v7) rfl (by kernel_rfl) (by kernel_rfl) (by kernel_rfl) (fun _ _ _ h => h) (Or.inl ⟨by kernel_rfl, ?y7⟩) hHeld ?r7
    case y7 => (intro w hSw; (try dsimp only at hSw); go_simp; (try with_reducible rfl))
    (try simp only [Act.put, List.setIfInBounds_toArray, List.set_cons_zero, List.set_cons_succ, List.getElem_toArray, List.getElem_cons_zero, List.getElem_cons_succ])
    refine wpAnyH_take (i := 8) (v := ?v8) rfl (by kernel_rfl) (by kernel_rfl) (by kernel_rfl) (fun _ _ _ h => h) (Or.inl ⟨by kernel_rfl, ?y8⟩) hHeld ?r8
    case y8 => (intro w hSw; (try dsimp only at hSw); go_simp; (try with_reducible rfl))
    (try simp only [Act.put, List.setIfInBounds_toArray, List.set_cons_zero, List.set_cons_succ, List.getElem_toArray, List.getElem_cons_zero, List.getElem_cons_succ])
    refine wpAnyH_take (i := 9) (v := ?v9) rfl (by kernel_rfl) (by kernel_rfl) (by kernel_rfl) (fun _ _ _ h => h) (Or.inl ⟨by kernel_rfl, ?y9⟩) hHeld ?r9
    case y9 => (intro w hSw; (try dsimp only at hSw); go_simp; (try with_reducible rfl))
    (try simp only [Act.put, List.setIfInBounds_toArray, List.set_cons_zero, List.set_cons_succ, List.getElem_toArray, List.getElem_cons_zero, List.getElem_cons_succ])
    refine wpAnyH_take (i := 10) (v := undef) rfl (by kernel_rfl) (by kernel_rfl) (by kernel_rfl) (fun _ _ _ h => h) (Or.inr ⟨by kernel_rfl, rfl⟩) hHeld ?_
    (try simp only [Act.put, List.setIfInBounds_toArray, List.set_cons_zero, List.set_cons_succ, List.getElem_toArray, List.getElem_cons_zero, List.getElem_cons_succ])
    refine wpAnyH_take (i := 11) (v := undef) rfl (by kernel_rfl) (by kernel_rfl) (by kernel_rfl) (fun _ _ _ h => h) (Or.inr ⟨by kernel_rfl, rfl⟩) hHeld ?_
    (try simp only [Act.put, List.setIfInBounds_toArray, List.set_cons_zero, List.set_cons_succ, List.getElem_toArray, List.getElem_cons_zero, List.getElem_cons_succ])
    refine wpAnyH_take (i := 12) (v := undef) rfl (by kernel_rfl) (by kernel_rfl) (by kernel_rfl) (fun _ _ _ h => h) (Or.inr ⟨by kernel_rfl, rfl⟩) hHeld ?_
    (try simp only [Act.put, List.setIfInBounds_toArray, List.set_cons_zero, List.set_cons_succ, List.getElem_toArray, List.getElem_cons_zero, List.getElem_cons_succ])
    refine wpAnyH_take (i := 13) (v := ?v13) rfl (by kernel_rfl) (by kernel_rfl) (by kernel_rfl) (fun _ _ _ h => h) (Or.inl ⟨by kernel_rfl, ?y13⟩) hHeld ?r13
    case y13 => (intro w hSw; (try dsimp only at hSw); go_simp; (try with_reducible rfl))
    (try simp only [Act.put, List.setIfInBounds_toArray, List.set_cons_zero, List.set_cons_succ, List.getElem_toArray, List.getElem_cons_zero, List.getElem_cons_succ])
    refine wpAnyH_take (i := 14) (v := ?v14) rfl (by kernel_rfl) (by kernel_rfl) (by kernel_rfl) (fun _ _ _ h => h) (Or.inl ⟨by kernel_rfl, ?y14⟩) hHeld ?r14
    case y14 => (intro w hSw; (try dsimp only at hSw); go_simp; (try with_reducible rfl))
    (try simp only [Act.put, List.setIfInBounds_toArray, List.set_cons_zero, List.set_cons_succ, List.getElem_toArray, List.getElem_cons_zero, List.getElem_cons_succ])
    refine wpAnyH_done (by kernel_rfl) ?_ _
    go_wp2
    go_ret
    exact ⟨rfl, hN2⟩
  · go_enter Tryz.func33, Tryz.ntmps33
    go_wp2_with (go_at_call 88; refine (fieldsOf_any _ _).mono ?_; rintro e w1 ⟨rfl, rfl⟩; rw [HF.out])
    first
      | (go_region_held3 (fun w' => w'.cell? ⟨w.heap.size, 0, none⟩ = some (.int .u8 o) ∧ w'.cell? ⟨w.heap.size, 1, none⟩ = some (.bool n) ∧ w'.cell? ⟨w.heap.size, 2, none⟩ = some (.int .i64 d) ∧ w'.cell? ⟨w.heap.size, 3, none⟩ = some (.int .i64 s) ∧ w'.cell? ⟨w.heap.size, 4, none⟩ = some (.bool u) ∧ w'.cell? ⟨w.heap.size, 5, none⟩ = some (.int .i64 f) ∧ w'.cell? ⟨w.heap.size, 6, none⟩ = some (.int .i64 m) ∧ w'.cell? ⟨w.heap.size, 7, none⟩ = some (.int .i64 z))
          (go_keep)
          (first
            | (go_at_call 89; (with_reducible refine (any_any _ _ _).mono ?_); rintro e w1 ⟨rfl, rfl⟩; have hB1 := HX.out.drew; have x0 : (w.alloc (.cells #[.int .u8 o, .bool n, .int .i64 d, .int .i64 s, .bool u, .int .i64 f, .int .i64 m, .int .i64 z] 41)).drew.cell? ⟨w.heap.size, 0, none⟩ = some (.int .u8 o) := (hB1.cell 0).trans rfl; have x1 : (w.alloc (.cells #[.int .u8 o, .bool n, .int .i64 d, .int .i64 s, .bool u, .int .i64 f, .int .i64 m, .int .i64 z] 41)).drew.cell? ⟨w.heap.size, 1, none⟩ = some (.bool n) := (hB1.cell 1).trans rfl; have x2 : (w.alloc (.cells #[.int .u8 o, .bool n, .int .i64 d, .int .i64 s, .bool u, .int .i64 f, .int .i64 m, .int .i64 z] 41)).drew.cell? ⟨w.heap.size, 2, none⟩ = some (.int .i64 d) := (hB1.cell 2).trans rfl; have x3 : (w.alloc (.cells #[.int .u8 o, .bool n, .int .i64 d, .int .i64 s, .bool u, .int .i64 f, .int .i64 m, .int .i64 z] 41)).drew.cell? ⟨w.heap.size, 3, none⟩ = some (.int .i64 s) := (hB1.cell 3).trans rfl; have x4 : (w.alloc (.cells #[.int .u8 o, .bool n, .int .i64 d, .int .i64 s, .bool u, .int .i64 f, .int .i64 m, .int .i64 z] 41)).drew.cell? ⟨w.heap.size, 4, none⟩ = some (.bool u) := (hB1.cell 4).trans rfl; have x5 : (w.alloc (.cells #[.int .u8 o, .bool n, .int .i64 d, .int .i64 s, .bool u, .int .i64 f, .int .i64 m, .int .i64 z] 41)).drew.cell? ⟨w.heap.size, 5, none⟩ = some (.int .i64 f) := (hB1.cell 5).trans rfl; have x6 : (w.alloc (.cells #[.int .u8 o, .bool n, .int .i64 d, .int .i64 s, .bool u, .int .i64 f, .int .i64 m, .int .i64 z] 41)).drew.cell? ⟨w.heap.size, 6, none⟩ = some (.int .i64 m) := (hB1.cell 6).trans rfl; have x7 : (w.alloc (.cells #[.int .u8 o, .bool n, .int .i64 d, .int .i64 s, .bool u, .int .i64 f, .int .i64 m, .int .i64 z] 41)).drew.cell? ⟨w.heap.size, 7, none⟩ = some (.int .i64 z) := (hB1.cell 7).trans rfl)
            | (go_at_call 90; (with_reducible refine (HO.out _).mono ?_); rintro e w2 ⟨rfl, hn2⟩; have hN2 := New.then (Below.drew HN.out) hn2; have hB2 := HX.out.drew.below hn2 HX.out.drew.lt; have x0 : w2.cell? ⟨w.heap.size, 0, none⟩ = some (.int .u8 o) := (hB2.cell 0).trans rfl; have x1 : w2.cell? ⟨w.heap.size, 1, none⟩ = some (.bool n) := (hB2.cell 1).trans rfl; have x2 : w2.cell? ⟨w.heap.size, 2, none⟩ = some (.int .i64 d) := (hB2.cell 2).trans rfl; have x3 : w2.cell? ⟨w.heap.size, 3, none⟩ = some (.int .i64 s) := (hB2.cell 3).trans rfl; have x4 : w2.cell? ⟨w.heap.size, 4, none⟩ = some (.bool u) := (hB2.cell 4).trans rfl; have x5 : w2.cell? ⟨w.heap.size, 5, none⟩ = some (.int .i64 f) := (hB2.cell 5).trans rfl; have x6 : w2.cell? ⟨w.heap.size, 6, none⟩ = some (.int .i64 m) := (hB2.cell 6).trans rfl; have x7 : w2.cell? ⟨w.heap.size, 7, none⟩ = some (.int .i64 z) := (hB2.cell 7).trans rfl)
            | (go_at_call 91; (with_reducible refine (fit_any _ _ _ _ _ _ _ _ _ _).mono ?_); rintro e w3 ⟨rfl, hn3⟩; have hN3 := New.then hN2 hn3; have hB3 := hB2.below hn3 hB2.lt; have x0 : w3.cell? ⟨w.heap.size, 0, none⟩ = some (.int .u8 o) := (hB3.cell 0).trans rfl; have x1 : w3.cell? ⟨w.heap.size, 1, none⟩ = some (.bool n) := (hB3.cell 1).trans rfl; have x2 : w3.cell? ⟨w.heap.size, 2, none⟩ = some (.int .i64 d) := (hB3.cell 2).trans rfl; have x3 : w3.cell? ⟨w.heap.size, 3, none⟩ = some (.int .i64 s) := (hB3.cell 3).trans rfl; have x4 : w3.cell? ⟨w.heap.size, 4, none⟩ = some (.bool u) := (hB3.cell 4).trans rfl; have x5 : w3.cell? ⟨w.heap.size, 5, none⟩ = some (.int .i64 f) := (hB3.cell 5).trans rfl; have x6 : w3.cell? ⟨w.heap.size, 6, none⟩ = some (.int .i64 m) := (hB3.cell 6).trans rfl; have x7 : w3.cell? ⟨w.heap.size, 7, none⟩ = some (.int .i64 z) := (hB3.cell 7).trans rfl)))
      | fail
    all_goals (go_wp2; go_ret; exact ⟨rfl, hN3⟩)
end Go.Proofs.YtddojdgnakajmaaGreatDoor.ins

namespace Go.Proofs.YtddojdgnakajmaaGreatDoor.ins
open Go.RowKit Go.Proofs.YtddojdgnakajmaaGreatDoor.mem Go.Proofs.YtddojdgnakajmaaGreatDoor.kit
set_option linter.unusedVariables false
set_option linter.unusedSimpArgs false

theorem inB_reg (n : Int) : inB n 0 10 = reg n := rfl
theorem inB_tgt (n : Int) : inB n 0 9 = tgt n := rfl
theorem inB_far (n : Int) : inB n (-32768) 32767 = far n := rfl
theorem inB_fits (n : Int) : inB n (-2147483648) 2147483647 = fits n := rfl
theorem reg_0 : reg 0 = true := rfl
theorem tgt_0 : tgt 0 = true := rfl

theorem ok_147i (o : Int) (n : Bool) (d s : Int) (f m z : Int) (h0 : 1 ≤ o) (h1 : o ≤ 12) : (sameB o n d s true f m z o n d 0 true 0 m 0 && fitB 147 d s f m z) = ok ⟨o, n, d, s, true, f, m, z⟩ := by
  have h2 : has 147 2 = true := by decide +kernel
  have h64 : has 147 64 = false := by decide +kernel
  have hk : ok ⟨o, n, d, s, true, f, m, z⟩ = (tgt d && (sec true s m && (decide (f = 0) && decide (z = 0)))) := by unfold ok; rw [if_pos ⟨h0, h1⟩]
  rw [hk]
  clear hk
  unfold sameB fitB
  simp only [h2, h64, if_true, if_false, Bool.false_eq_true, inB_reg, inB_tgt, inB_far, inB_fits]
  by_cases hs : s = 0 <;> by_cases hf : f = 0 <;> by_cases hz : z = 0 <;> simp [*, sec, reg_0, far_0, fits_0, tgt_0, Bool.and_comm, Bool.and_left_comm]
theorem right_147i (o : Int) (n : Bool) (d s : Int) (f m z : Int) (h0 : 1 ≤ o) (h1 : o ≤ 12) (w : World) : Calls Tryz.prog 33 #[.agg #[.int .u8 o, .bool n, .int .i64 d, .int .i64 s, .bool true, .int .i64 f, .int .i64 m, .int .i64 z]] w fun e w' => e = .returned (.bool (ok ⟨o, n, d, s, true, f, m, z⟩)) ∧ New w w' := by
  rw [← ok_147i o n d s  f m z h0 h1]
  exact right_of 147 o n d s true f m z o n d 0 true 0 m 0 w (fld_1 h0 h1) (by decide +kernel) _ rfl (fun W => only_147i o n d s  f m z W)

theorem ok_147r (o : Int) (n : Bool) (d s : Int) (f m z : Int) (h0 : 1 ≤ o) (h1 : o ≤ 12) : (sameB o n d s false f m z o n d s false 0 0 0 && fitB 147 d s f m z) = ok ⟨o, n, d, s, false, f, m, z⟩ := by
  have h2 : has 147 2 = true := by decide +kernel
  have h64 : has 147 64 = false := by decide +kernel
  have hk : ok ⟨o, n, d, s, false, f, m, z⟩ = (tgt d && (sec false s m && (decide (f = 0) && decide (z = 0)))) := by unfold ok; rw [if_pos ⟨h0, h1⟩]
  rw [hk]
  clear hk
  unfold sameB fitB
  simp only [h2, h64, if_true, if_false, Bool.false_eq_true, inB_reg, inB_tgt, inB_far, inB_fits]
  by_cases hf : f = 0 <;> by_cases hm : m = 0 <;> by_cases hz : z = 0 <;> simp [*, sec, reg_0, far_0, fits_0, tgt_0, Bool.and_comm, Bool.and_left_comm]
theorem right_147r (o : Int) (n : Bool) (d s : Int) (f m z : Int) (h0 : 1 ≤ o) (h1 : o ≤ 12) (w : World) : Calls Tryz.prog 33 #[.agg #[.int .u8 o, .bool n, .int .i64 d, .int .i64 s, .bool false, .int .i64 f, .int .i64 m, .int .i64 z]] w fun e w' => e = .returned (.bool (ok ⟨o, n, d, s, false, f, m, z⟩)) ∧ New w w' := by
  rw [← ok_147r o n d s  f m z h0 h1]
  exact right_of 147 o n d s false f m z o n d s false 0 0 0 w (fld_1 h0 h1) (by decide +kernel) _ rfl (fun W => only_147r o n d s  f m z W)

theorem ok_131 (n : Bool) (d s : Int) (u : Bool) (f m z : Int)  : (sameB 13 n d s u f m z 13 n d 0 false 0 0 0 && fitB 131 d s f m z) = ok ⟨13, n, d, s, u, f, m, z⟩ := by
  have h2 : has 131 2 = true := by decide +kernel
  have h64 : has 131 64 = false := by decide +kernel
  have hk : ok ⟨13, n, d, s, u, f, m, z⟩ = (tgt d && (decide (s = 0) && (!u && (decide (f = 0) && (decide (m = 0) && decide (z = 0)))))) := by rfl
  rw [hk]
  clear hk
  unfold sameB fitB
  simp only [h2, h64, if_true, if_false, Bool.false_eq_true, inB_reg, inB_tgt, inB_far, inB_fits]
  by_cases hs : s = 0 <;> by_cases hf : f = 0 <;> by_cases hm : m = 0 <;> by_cases hz : z = 0 <;> cases u <;> simp [*, sec, reg_0, far_0, fits_0, tgt_0, Bool.and_comm, Bool.and_left_comm]
theorem right_131 (n : Bool) (d s : Int) (u : Bool) (f m z : Int)  (w : World) : Calls Tryz.prog 33 #[.agg #[.int .u8 13, .bool n, .int .i64 d, .int .i64 s, .bool u, .int .i64 f, .int .i64 m, .int .i64 z]] w fun e w' => e = .returned (.bool (ok ⟨13, n, d, s, u, f, m, z⟩)) ∧ New w w' := by
  rw [← ok_131  n d s u f m z]
  exact right_of 131 13 n d s u f m z 13 n d 0 false 0 0 0 w rfl (by decide +kernel) _ rfl (fun W => only_131 13 n d s u f m z W)

theorem ok_107 (n : Bool) (d s : Int) (u : Bool) (f m z : Int)  : (sameB 14 n d s u f m z 14 false d s false f 0 z && fitB 107 d s f m z) = ok ⟨14, n, d, s, u, f, m, z⟩ := by
  have h2 : has 107 2 = true := by decide +kernel
  have h64 : has 107 64 = true := by decide +kernel
  have hk : ok ⟨14, n, d, s, u, f, m, z⟩ = (tgt d && (reg s && (far f && (sizd z && (!n && (!u && decide (m = 0))))))) := by rfl
  rw [hk]
  clear hk
  unfold sameB fitB
  simp only [h2, h64, if_true, if_false, Bool.false_eq_true, inB_reg, inB_tgt, inB_far, inB_fits]
  by_cases hm : m = 0 <;> cases n <;> cases u <;> simp [*, sec, reg_0, far_0, fits_0, tgt_0, Bool.and_comm, Bool.and_left_comm]
theorem right_107 (n : Bool) (d s : Int) (u : Bool) (f m z : Int)  (w : World) : Calls Tryz.prog 33 #[.agg #[.int .u8 14, .bool n, .int .i64 d, .int .i64 s, .bool u, .int .i64 f, .int .i64 m, .int .i64 z]] w fun e w' => e = .returned (.bool (ok ⟨14, n, d, s, u, f, m, z⟩)) ∧ New w w' := by
  rw [← ok_107  n d s u f m z]
  exact right_of 107 14 n d s u f m z 14 false d s false f 0 z w rfl (by decide +kernel) _ rfl (fun W => only_107 14 n d s u f m z W)

theorem ok_117i (n : Bool) (d s : Int) (f m z : Int)  : (sameB 15 n d s true f m z 15 false d 0 true f m z && fitB 117 d s f m z) = ok ⟨15, n, d, s, true, f, m, z⟩ := by
  have h2 : has 117 2 = false := by decide +kernel
  have h64 : has 117 64 = true := by decide +kernel
  have hk : ok ⟨15, n, d, s, true, f, m, z⟩ = (reg d && (far f && (sizd z && (sec true s m && !n)))) := by rfl
  rw [hk]
  clear hk
  unfold sameB fitB
  simp only [h2, h64, if_true, if_false, Bool.false_eq_true, inB_reg, inB_tgt, inB_far, inB_fits]
  by_cases hs : s = 0 <;> cases n <;> simp [*, sec, reg_0, far_0, fits_0, tgt_0, Bool.and_comm, Bool.and_left_comm]
theorem right_117i (n : Bool) (d s : Int) (f m z : Int)  (w : World) : Calls Tryz.prog 33 #[.agg #[.int .u8 15, .bool n, .int .i64 d, .int .i64 s, .bool true, .int .i64 f, .int .i64 m, .int .i64 z]] w fun e w' => e = .returned (.bool (ok ⟨15, n, d, s, true, f, m, z⟩)) ∧ New w w' := by
  rw [← ok_117i  n d s  f m z]
  exact right_of 117 15 n d s true f m z 15 false d 0 true f m z w rfl (by decide +kernel) _ rfl (fun W => only_117i 15 n d s  f m z W)

theorem ok_117r (n : Bool) (d s : Int) (f m z : Int)  : (sameB 15 n d s false f m z 15 false d s false f 0 z && fitB 117 d s f m z) = ok ⟨15, n, d, s, false, f, m, z⟩ := by
  have h2 : has 117 2 = false := by decide +kernel
  have h64 : has 117 64 = true := by decide +kernel
  have hk : ok ⟨15, n, d, s, false, f, m, z⟩ = (reg d && (far f && (sizd z && (sec false s m && !n)))) := by rfl
  rw [hk]
  clear hk
  unfold sameB fitB
  simp only [h2, h64, if_true, if_false, Bool.false_eq_true, inB_reg, inB_tgt, inB_far, inB_fits]
  by_cases hm : m = 0 <;> cases n <;> simp [*, sec, reg_0, far_0, fits_0, tgt_0, Bool.and_comm, Bool.and_left_comm]
theorem right_117r (n : Bool) (d s : Int) (f m z : Int)  (w : World) : Calls Tryz.prog 33 #[.agg #[.int .u8 15, .bool n, .int .i64 d, .int .i64 s, .bool false, .int .i64 f, .int .i64 m, .int .i64 z]] w fun e w' => e = .returned (.bool (ok ⟨15, n, d, s, false, f, m, z⟩)) ∧ New w w' := by
  rw [← ok_117r  n d s  f m z]
  exact right_of 117 15 n d s false f m z 15 false d s false f 0 z w rfl (by decide +kernel) _ rfl (fun W => only_117r 15 n d s  f m z W)

theorem ok_33 (n : Bool) (d s : Int) (u : Bool) (f m z : Int)  : (sameB 16 n d s u f m z 16 false 0 0 false f 0 0 && fitB 33 d s f m z) = ok ⟨16, n, d, s, u, f, m, z⟩ := by
  have h2 : has 33 2 = false := by decide +kernel
  have h64 : has 33 64 = false := by decide +kernel
  have hk : ok ⟨16, n, d, s, u, f, m, z⟩ = (far f && (!n && (decide (d = 0) && (decide (s = 0) && (!u && (decide (m = 0) && decide (z = 0))))))) := by rfl
  rw [hk]
  clear hk
  unfold sameB fitB
  simp only [h2, h64, if_true, if_false, Bool.false_eq_true, inB_reg, inB_tgt, inB_far, inB_fits]
  by_cases hs : s = 0 <;> by_cases hm : m = 0 <;> by_cases hd : d = 0 <;> by_cases hz : z = 0 <;> cases n <;> cases u <;> simp [*, sec, reg_0, far_0, fits_0, tgt_0, Bool.and_comm, Bool.and_left_comm]
theorem right_33 (n : Bool) (d s : Int) (u : Bool) (f m z : Int)  (w : World) : Calls Tryz.prog 33 #[.agg #[.int .u8 16, .bool n, .int .i64 d, .int .i64 s, .bool u, .int .i64 f, .int .i64 m, .int .i64 z]] w fun e w' => e = .returned (.bool (ok ⟨16, n, d, s, u, f, m, z⟩)) ∧ New w w' := by
  rw [← ok_33  n d s u f m z]
  exact right_of 33 16 n d s u f m z 16 false 0 0 false f 0 0 w rfl (by decide +kernel) _ rfl (fun W => only_33 16 n d s u f m z W)

theorem ok_181i (o : Int) (n : Bool) (d s : Int) (f m z : Int) (h0 : 17 ≤ o) (h1 : o ≤ 27) : (sameB o n d s true f m z o n d 0 true f m 0 && fitB 181 d s f m z) = ok ⟨o, n, d, s, true, f, m, z⟩ := by
  have h2 : has 181 2 = false := by decide +kernel
  have h64 : has 181 64 = false := by decide +kernel
  have hk : ok ⟨o, n, d, s, true, f, m, z⟩ = (reg d && (far f && (sec true s m && decide (z = 0)))) := by unfold ok; rw [if_neg (by simp only; omega), if_neg (by simp only; omega), if_neg (by simp only; omega), if_neg (by simp only; omega), if_neg (by simp only; omega), if_pos ⟨h0, h1⟩]
  rw [hk]
  clear hk
  unfold sameB fitB
  simp only [h2, h64, if_true, if_false, Bool.false_eq_true, inB_reg, inB_tgt, inB_far, inB_fits]
  by_cases hs : s = 0 <;> by_cases hz : z = 0 <;> simp [*, sec, reg_0, far_0, fits_0, tgt_0, Bool.and_comm, Bool.and_left_comm]
theorem right_181i (o : Int) (n : Bool) (d s : Int) (f m z : Int) (h0 : 17 ≤ o) (h1 : o ≤ 27) (w : World) : Calls Tryz.prog 33 #[.agg #[.int .u8 o, .bool n, .int .i64 d, .int .i64 s, .bool true, .int .i64 f, .int .i64 m, .int .i64 z]] w fun e w' => e = .returned (.bool (ok ⟨o, n, d, s, true, f, m, z⟩)) ∧ New w w' := by
  rw [← ok_181i o n d s  f m z h0 h1]
  exact right_of 181 o n d s true f m z o n d 0 true f m 0 w (fld_2 h0 h1) (by decide +kernel) _ rfl (fun W => only_181i o n d s  f m z W)

theorem ok_181r (o : Int) (n : Bool) (d s : Int) (f m z : Int) (h0 : 17 ≤ o) (h1 : o ≤ 27) : (sameB o n d s false f m z o n d s false f 0 0 && fitB 181 d s f m z) = ok ⟨o, n, d, s, false, f, m, z⟩ := by
  have h2 : has 181 2 = false := by decide +kernel
  have h64 : has 181 64 = false := by decide +kernel
  have hk : ok ⟨o, n, d, s, false, f, m, z⟩ = (reg d && (far f && (sec false s m && decide (z = 0)))) := by unfold ok; rw [if_neg (by simp only; omega), if_neg (by simp only; omega), if_neg (by simp only; omega), if_neg (by simp only; omega), if_neg (by simp only; omega), if_pos ⟨h0, h1⟩]
  rw [hk]
  clear hk
  unfold sameB fitB
  simp only [h2, h64, if_true, if_false, Bool.false_eq_true, inB_reg, inB_tgt, inB_far, inB_fits]
  by_cases hm : m = 0 <;> by_cases hz : z = 0 <;> simp [*, sec, reg_0, far_0, fits_0, tgt_0, Bool.and_comm, Bool.and_left_comm]
theorem right_181r (o : Int) (n : Bool) (d s : Int) (f m z : Int) (h0 : 17 ≤ o) (h1 : o ≤ 27) (w : World) : Calls Tryz.prog 33 #[.agg #[.int .u8 o, .bool n, .int .i64 d, .int .i64 s, .bool false, .int .i64 f, .int .i64 m, .int .i64 z]] w fun e w' => e = .returned (.bool (ok ⟨o, n, d, s, false, f, m, z⟩)) ∧ New w w' := by
  rw [← ok_181r o n d s  f m z h0 h1]
  exact right_of 181 o n d s false f m z o n d s false f 0 0 w (fld_2 h0 h1) (by decide +kernel) _ rfl (fun W => only_181r o n d s  f m z W)

theorem ok_1 (n : Bool) (d s : Int) (u : Bool) (f m z : Int)  : (sameB 28 n d s u f m z 28 false 0 0 false 0 0 0 && fitB 1 d s f m z) = ok ⟨28, n, d, s, u, f, m, z⟩ := by
  have h2 : has 1 2 = false := by decide +kernel
  have h64 : has 1 64 = false := by decide +kernel
  have hk : ok ⟨28, n, d, s, u, f, m, z⟩ = (!n && (decide (d = 0) && (decide (s = 0) && (!u && (decide (f = 0) && (decide (m = 0) && decide (z = 0))))))) := by rfl
  rw [hk]
  clear hk
  unfold sameB fitB
  simp only [h2, h64, if_true, if_false, Bool.false_eq_true, inB_reg, inB_tgt, inB_far, inB_fits]
  by_cases hs : s = 0 <;> by_cases hf : f = 0 <;> by_cases hm : m = 0 <;> by_cases hd : d = 0 <;> by_cases hz : z = 0 <;> cases n <;> cases u <;> simp [*, sec, reg_0, far_0, fits_0, tgt_0, Bool.and_comm, Bool.and_left_comm]
theorem right_1 (n : Bool) (d s : Int) (u : Bool) (f m z : Int)  (w : World) : Calls Tryz.prog 33 #[.agg #[.int .u8 28, .bool n, .int .i64 d, .int .i64 s, .bool u, .int .i64 f, .int .i64 m, .int .i64 z]] w fun e w' => e = .returned (.bool (ok ⟨28, n, d, s, u, f, m, z⟩)) ∧ New w w' := by
  rw [← ok_1  n d s u f m z]
  exact right_of 1 28 n d s u f m z 28 false 0 0 false 0 0 0 w rfl (by decide +kernel) _ rfl (fun W => only_1 28 n d s u f m z W)

end Go.Proofs.YtddojdgnakajmaaGreatDoor.ins

namespace Go.Proofs.YtddojdgnakajmaaGreatDoor.ins
open Go.RowKit Go.Proofs.YtddojdgnakajmaaGreatDoor.mem Go.Proofs.YtddojdgnakajmaaGreatDoor.kit
set_option linter.unusedVariables false

theorem has_0 : has 0 1 = false := by decide +kernel
theorem ok_0 (i : In) (h : i.op < 1 ∨ 28 < i.op) : ok i = false := by
  unfold ok
  rw [if_neg (by omega), if_neg (by omega), if_neg (by omega), if_neg (by omega), if_neg (by omega), if_neg (by omega), if_neg (by omega)]

theorem any_no (w : World) : Calls Tryz.prog 89 #[.int .u8 0, .int .u8 1] w fun e w' => e = .returned (.bool false) ∧ w' = w :=
  (any_any 0 1 w).mono fun e w' ⟨he, hw⟩ => ⟨by rw [he, has_0], hw.symm⟩

set_option maxRecDepth 100000 in
set_option maxHeartbeats 2000000 in
theorem right_none (o : Int) (n : Bool) (d s : Int) (u : Bool) (f m z : Int) (w : World) (h : o < 1 ∨ 28 < o) :
    Calls Tryz.prog 33 #[.agg #[.int .u8 o, .bool n, .int .i64 d, .int .i64 s, .bool u, .int .i64 f, .int .i64 m, .int .i64 z]] w fun e w' => e = .returned (.bool false) ∧ New w w' := by
  have HF := Lib.hid (fld_0 h)
  have h1 := has_0
  have hN := new1 w (.cells #[.int .u8 o, .bool n, .int .i64 d, .int .i64 s, .bool u, .int .i64 f, .int .i64 m, .int .i64 z] 41)
  have HN := Lib.hid hN
  clear hN h
  go_enter Tryz.func33, Tryz.ntmps33
  go_wp2_with (go_at_call 88; refine (fieldsOf_any _ _).mono ?_; rintro e w1 ⟨rfl, rfl⟩; rw [HF.out])
  go_quiet ((go_at_call 89; exact Calls.quiet_of_same (any_no _)))
  go_wp2
  go_ret
  exact ⟨rfl, New.drewN HN.out _⟩

theorem Right_any (i : In) (w : World) : Calls Tryz.prog 33 #[i.val] w fun e w' => e = .returned (.bool (ok i)) ∧ New w w' := by
  obtain ⟨o, n, d, s, u, f, m, z⟩ := i
  unfold In.val
  rcases ops_cases o with ⟨h0, h1⟩ | rfl | rfl | rfl | rfl | ⟨h0, h1⟩ | rfl | h
  · cases u
    · exact right_147r o n d s f m z h0 h1 w
    · exact right_147i o n d s f m z h0 h1 w
  · exact right_131 n d s u f m z w
  · exact right_107 n d s u f m z w
  · cases u
    · exact right_117r n d s f m z w
    · exact right_117i n d s f m z w
  · exact right_33 n d s u f m z w
  · cases u
    · exact right_181r o n d s f m z h0 h1 w
    · exact right_181i o n d s f m z h0 h1 w
  · exact right_1 n d s u f m z w
  · rw [ok_0 _ h]
    exact right_none o n d s u f m z w h

theorem Jumps_any (i : In) (w : World) : Calls Tryz.prog 161 #[i.val] w fun e w' => e = .returned (.bool (jumps i)) ∧ New w w' := by
  obtain ⟨o, n, d, s, u, f, m, z⟩ := i
  unfold In.val
  have hN := new1 w (.cells #[.int .u8 o, .bool n, .int .i64 d, .int .i64 s, .bool u, .int .i64 f, .int .i64 m, .int .i64 z] 41)
  have HN := Lib.hid hN
  clear hN
  by_cases h0 : 16 ≤ o
  · by_cases h1 : o ≤ 27
    · have H : Hid (jumps ⟨o, n, d, s, u, f, m, z⟩ = true) := Lib.hid (by simp [jumps, h0, h1])
      go_enter Tryz.func161, Tryz.ntmps161
      go_wp2
      go_ret
      exact ⟨ret_bool H.out.symm, HN.out⟩
    · have H : Hid (jumps ⟨o, n, d, s, u, f, m, z⟩ = false) := Lib.hid (by simp [jumps, h0, h1])
      go_enter Tryz.func161, Tryz.ntmps161
      go_wp2
      go_ret
      exact ⟨ret_bool H.out.symm, HN.out⟩
  · have H : Hid (jumps ⟨o, n, d, s, u, f, m, z⟩ = false) := Lib.hid (by simp [jumps, h0])
    go_enter Tryz.func161, Tryz.ntmps161
    go_wp2
    go_ret
    exact ⟨ret_bool H.out.symm, HN.out⟩
end Go.Proofs.YtddojdgnakajmaaGreatDoor.ins
