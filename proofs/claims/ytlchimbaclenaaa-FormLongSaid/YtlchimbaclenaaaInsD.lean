/-
  Contracts of ins: Right.
-/
import Derived.Test.YtlchimbaclenaaaInsC
import Derived.Deep.RegionHeld3
namespace Go.Proofs.Ytlchimbaclenaaa.ins
open Go.RowKit Go.Proofs.Ytlchimbaclenaaa.mem Go.Proofs.Ytlchimbaclenaaa.kit
set_option linter.unusedVariables false
set_option linter.unusedSimpArgs false

/-- An instruction's eight cells. -/
def Eight (w : World) (b k : Nat) (o : Int) (n : Bool) (d s : Int) (u : Bool) (f m z : Int) : Prop :=
  w.cell? ⟨b, k, none⟩ = some (.int .u8 o) ∧ w.cell? ⟨b, k + 1, none⟩ = some (.bool n) ∧ w.cell? ⟨b, k + 2, none⟩ = some (.int .i64 d) ∧ w.cell? ⟨b, k + 3, none⟩ = some (.int .i64 s) ∧ w.cell? ⟨b, k + 4, none⟩ = some (.bool u) ∧ w.cell? ⟨b, k + 5, none⟩ = some (.int .i64 f) ∧ w.cell? ⟨b, k + 6, none⟩ = some (.int .i64 m) ∧ w.cell? ⟨b, k + 7, none⟩ = some (.int .i64 z)

set_option maxRecDepth 100000 in
set_option maxHeartbeats 2000000 in
theorem right_of (F : Int) (o : Int) (n : Bool) (d s : Int) (u : Bool) (f m z : Int) (o' : Int) (n' : Bool) (d' s' : Int) (u' : Bool) (f' m' z' : Int) (w : World)
    (hF : fld o = F) (h1 : has F 1 = true) (E : Bool) (hE : sameB o n d s u f m z o' n' d' s' u' f' m' z' = E)
    (hO : ∀ W : World, Calls Try.prog 42 #[.int .u8 F, .agg #[.int .u8 o, .bool n, .int .i64 d, .int .i64 s, .bool u, .int .i64 f, .int .i64 m, .int .i64 z]] W fun e w' => e = .returned (.agg #[.int .u8 o', .bool n', .int .i64 d', .int .i64 s', .bool u', .int .i64 f', .int .i64 m', .int .i64 z']) ∧ New W w') :
    Calls Try.prog 25 #[.agg #[.int .u8 o, .bool n, .int .i64 d, .int .i64 s, .bool u, .int .i64 f, .int .i64 m, .int .i64 z]] w fun e w' => e = .returned (.bool (E && fitB F d s f m z)) ∧ New w w' := by
  have HF := Lib.hid hF
  have HO := Lib.hid hO
  have hq : ∀ W : World, (Op.equalIn 10000 34 (.agg #[.int .u8 o, .bool n, .int .i64 d, .int .i64 s, .bool u, .int .i64 f, .int .i64 m, .int .i64 z]) (.agg #[.int .u8 o', .bool n', .int .i64 d', .int .i64 s', .bool u', .int .i64 f', .int .i64 m', .int .i64 z'])).run Try.prog W = .ok E W := fun W => by rw [eq_ins, hE]
  have hx := Blk.new w 34 #[.int .u8 o, .bool n, .int .i64 d, .int .i64 s, .bool u, .int .i64 f, .int .i64 m, .int .i64 z]
  have hN := new1 w (.cells #[.int .u8 o, .bool n, .int .i64 d, .int .i64 s, .bool u, .int .i64 f, .int .i64 m, .int .i64 z] 34)
  have HX := Lib.hid hx
  have HN := Lib.hid hN
  clear hF hO hE hx hN
  rcases E with _ | _
  · go_enter Try.func25, Try.ntmps25
    go_wp2_with (go_at_call 40; refine (fieldsOf_any _ _).mono ?_; rintro e w1 ⟨rfl, rfl⟩; rw [HF.out])
    refine wp_region_held_drew (S := (fun w' => w'.cell? ⟨w.heap.size, 0, none⟩ = some (.int .u8 o) ∧ w'.cell? ⟨w.heap.size, 1, none⟩ = some (.bool n) ∧ w'.cell? ⟨w.heap.size, 2, none⟩ = some (.int .i64 d) ∧ w'.cell? ⟨w.heap.size, 3, none⟩ = some (.int .i64 s) ∧ w'.cell? ⟨w.heap.size, 4, none⟩ = some (.bool u) ∧ w'.cell? ⟨w.heap.size, 5, none⟩ = some (.int .i64 f) ∧ w'.cell? ⟨w.heap.size, 6, none⟩ = some (.int .i64 m) ∧ w'.cell? ⟨w.heap.size, 7, none⟩ = some (.int .i64 z))) (by kernel_rfl) ?_ (fun hHeld => ?_)
    · exact ⟨(HX.out.drew.cell 0).trans rfl, (HX.out.drew.cell 1).trans rfl, (HX.out.drew.cell 2).trans rfl, (HX.out.drew.cell 3).trans rfl, (HX.out.drew.cell 4).trans rfl, (HX.out.drew.cell 5).trans rfl, (HX.out.drew.cell 6).trans rfl, (HX.out.drew.cell 7).trans rfl⟩
    refine wpAnyH_take (i := 0) (v := ?v0) rfl (by kernel_rfl) (by kernel_rfl) (by kernel_rfl) (fun _ _ _ h => h) (Or.inl ⟨by kernel_rfl, ?y0⟩) hHeld ?r0
    case y0 => (intro w hSw; (try dsimp only at hSw); go_simp; (try with_reducible rfl))
    (try simp only [Act.put, List.setIfInBounds_toArray, List.set_cons_zero, List.set_cons_succ, List.getElem_toArray, List.getElem_cons_zero, List.getElem_cons_succ])
    refine wpAnyH_ready (rs := [1]) (by kernel_rfl) (by simp) ?_
    refine AllReadyH.cons rfl (fun K hK => ?_) AllReadyH.nil
    go_simp
    go_at_call 41
    (with_reducible refine (any_any _ _ _).mono ?_)
    rintro e w1 ⟨rfl, rfl⟩
    go_wp2_with fail
    refine hK.out _ _ ?_ (fun hHeld => ?_)
    · exact ⟨(HX.out.drew.cell 0).trans rfl, (HX.out.drew.cell 1).trans rfl, (HX.out.drew.cell 2).trans rfl, (HX.out.drew.cell 3).trans rfl, (HX.out.drew.cell 4).trans rfl, (HX.out.drew.cell 5).trans rfl, (HX.out.drew.cell 6).trans rfl, (HX.out.drew.cell 7).trans rfl⟩
    clear hK K
    (try simp only [Act.put, List.setIfInBounds_toArray, List.set_cons_zero, List.set_cons_succ, List.getElem_toArray, List.getElem_cons_zero, List.getElem_cons_succ])
    refine wpAnyH_take (i := 2) (v := ?v2) rfl (by kernel_rfl) (by kernel_rfl) (by kernel_rfl) (fun _ _ _ h => h) (Or.inl ⟨by kernel_rfl, ?y2⟩) hHeld ?r2
    case y2 => (intro w hSw; (try dsimp only at hSw); go_simp; (try with_reducible rfl))
    (try simp only [Act.put, List.setIfInBounds_toArray, List.set_cons_zero, List.set_cons_succ, List.getElem_toArray, List.getElem_cons_zero, List.getElem_cons_succ])
    refine wpAnyH_take (i := 3) (v := ?v3) rfl (by kernel_rfl) (by kernel_rfl) (by kernel_rfl) (fun _ _ _ h => h) (Or.inl ⟨by kernel_rfl, ?y3⟩) hHeld ?r3
    case y3 => (intro w hSw; (try dsimp only at hSw); go_simp; (try with_reducible rfl))
    (try simp only [Act.put, List.setIfInBounds_toArray, List.set_cons_zero, List.set_cons_succ, List.getElem_toArray, List.getElem_cons_zero, List.getElem_cons_succ])
    refine wpAnyH_take (i := 4) (v := ?v4) rfl (by kernel_rfl) (by kernel_rfl) (by kernel_rfl) (fun _ _ _ h => h) (Or.inl ⟨by kernel_rfl, ?y4⟩) hHeld ?r4
    case y4 => (intro w hSw; (try dsimp only at hSw); go_simp; (try with_reducible rfl))
    (try simp only [Act.put, List.setIfInBounds_toArray, List.set_cons_zero, List.set_cons_succ, List.getElem_toArray, List.getElem_cons_zero, List.getElem_cons_succ])
    refine wpAnyH_take (i := 5) (v := ?v5) rfl (by kernel_rfl) (by kernel_rfl) (by kernel_rfl) (fun _ _ _ h => h) (Or.inl ⟨by kernel_rfl, ?y5⟩) hHeld ?r5
    case y5 => (intro w hSw; (try dsimp only at hSw); go_simp; (try with_reducible rfl))
    (try simp only [Act.put, List.setIfInBounds_toArray, List.set_cons_zero, List.set_cons_succ, List.getElem_toArray, List.getElem_cons_zero, List.getElem_cons_succ])
    refine wpAnyH_ready (rs := [6]) (by kernel_rfl) (by simp) ?_
    refine AllReadyH.cons rfl (fun K hK => ?_) AllReadyH.nil
    go_simp
    go_at_call 42
    (with_reducible refine (HO.out _).mono ?_)
    rintro e w2 ⟨rfl, hn2⟩
    have hN2 := New.then (Below.drew HN.out) hn2
    have hB2 := HX.out.drew.below hn2 HX.out.drew.lt
    go_wp2_with fail
    refine hK.out _ _ ?_ (fun hHeld => ?_)
    · exact ⟨(hB2.cell 0).trans rfl, (hB2.cell 1).trans rfl, (hB2.cell 2).trans rfl, (hB2.cell 3).trans rfl, (hB2.cell 4).trans rfl, (hB2.cell 5).trans rfl, (hB2.cell 6).trans rfl, (hB2.cell 7).trans rfl⟩
    clear hK K
    (try simp only [Act.put, List.setIfInBounds_toArray, List.set_cons_zero, List.set_cons_succ, List.getElem_toArray, List.getElem_cons_zero, List.getElem_cons_succ])
    refine wpAnyH_take (i := 7) (v := ?v7) rfl (by kernel_rfl) (by kernel_rfl) (by kernel_rfl) (fun _ _ _ h => h) (Or.inl ⟨by kernel_rfl, ?y7⟩) hHeld ?r7
    case y7 => (intro w hSw; (try dsimp only at hSw); go_simp; (try with_reducible rfl))
    (try simp only [Act.put, List.setIfInBounds_toArray, List.set_cons_zero, List.set_cons_succ, List.getElem_toArray, List.getElem_cons_zero, List.getElem_cons_succ])
    refine wpAnyH_take (i := 8) (v := ?v8) rfl (by kernel_rfl) (by kernel_rfl) (by kernel_rfl) (fun _ _ _ h => h) (Or.inl ⟨by kernel_rfl, ?y8⟩) hHeld ?r8
    case y8 => (intro w hSw; (try dsimp only at hSw); go_simp; (try with_reducible rfl))
    (try simp only [Act.put, List.setIfInBounds_toArray, List.set_cons_zero, List.set_cons_succ, List.getElem_toArray, List.getElem_cons_zero, List.getElem_cons_succ])
    refine wpAnyH_take (i := 9) (v := ?v9) rfl (by kernel_rfl) (by kernel_rfl) (by kernel_rfl) (fun _ _ _ h => h) (Or.inl ⟨by kernel_rfl, ?y9⟩) hHeld ?r9
    case y9 => (intro w hSw; (try dsimp only at hSw); go_simp; (try with_reducible rfl))
    (try simp only [Act.put, List.setIfInBounds_toArray, List.set_cons_zero, List.set_cons_succ, List.getElem_toArray, List.getElem_cons_zero, List.getElem_cons_succ])
    refine wpAnyH_take (i := 10) (v := undef) rfl (by kernel_rfl) (by kernel_rfl) (by kernel_rfl) (fun _ _ _ h => h) (Or.inr ⟨by kernel_rfl, rfl⟩) hHeld ?_
    (try simp only [Act.put, List.setIfInBounds_toArray, List.set_cons_zero, List.set_cons_succ, List.getElem_toArray, List.getElem_cons_zero, List.getElem_cons_succ])
    refine wpAnyH_take (i := 11) (v := undef) rfl (by kernel_rfl) (by kernel_rfl) (by kernel_rfl) (fun _ _ _ h => h) (Or.inr ⟨by kernel_rfl, rfl⟩) hHeld ?_
    (try simp only [Act.put, List.setIfInBounds_toArray, List.set_cons_zero, List.set_cons_succ, List.getElem_toArray, List.getElem_cons_zero, List.getElem_cons_succ])
    refine wpAnyH_take (i := 12) (v := undef) rfl (by kernel_rfl) (by kernel_rfl) (by kernel_rfl) (fun _ _ _ h => h) (Or.inr ⟨by kernel_rfl, rfl⟩) hHeld ?_
    (try simp only [Act.put, List.setIfInBounds_toArray, List.set_cons_zero, List.set_cons_succ, List.getElem_toArray, List.getElem_cons_zero, List.getElem_cons_succ])
    refine wpAnyH_take (i := 13) (v := ?v13) rfl (by kernel_rfl) (by kernel_rfl) (by kernel_rfl) (fun _ _ _ h => h) (Or.inl ⟨by kernel_rfl, ?y13⟩) hHeld ?r13
    case y13 => (intro w hSw; (try dsimp only at hSw); go_simp; (try with_reducible rfl))
    (try simp only [Act.put, List.setIfInBounds_toArray, List.set_cons_zero, List.set_cons_succ, List.getElem_toArray, List.getElem_cons_zero, List.getElem_cons_succ])
    refine wpAnyH_take (i := 14) (v := ?v14) rfl (by kernel_rfl) (by kernel_rfl) (by kernel_rfl) (fun _ _ _ h => h) (Or.inl ⟨by kernel_rfl, ?y14⟩) hHeld ?r14
    case y14 => (intro w hSw; (try dsimp only at hSw); go_simp; (try with_reducible rfl))
    (try simp only [Act.put, List.setIfInBounds_toArray, List.set_cons_zero, List.set_cons_succ, List.getElem_toArray, List.getElem_cons_zero, List.getElem_cons_succ])
    refine wpAnyH_done (by kernel_rfl) ?_ _
    go_wp2
    go_ret
    exact ⟨rfl, hN2⟩
  · go_enter Try.func25, Try.ntmps25
    go_wp2_with (go_at_call 40; refine (fieldsOf_any _ _).mono ?_; rintro e w1 ⟨rfl, rfl⟩; rw [HF.out])
    first
      | (go_region_held3 (fun w' => w'.cell? ⟨w.heap.size, 0, none⟩ = some (.int .u8 o) ∧ w'.cell? ⟨w.heap.size, 1, none⟩ = some (.bool n) ∧ w'.cell? ⟨w.heap.size, 2, none⟩ = some (.int .i64 d) ∧ w'.cell? ⟨w.heap.size, 3, none⟩ = some (.int .i64 s) ∧ w'.cell? ⟨w.heap.size, 4, none⟩ = some (.bool u) ∧ w'.cell? ⟨w.heap.size, 5, none⟩ = some (.int .i64 f) ∧ w'.cell? ⟨w.heap.size, 6, none⟩ = some (.int .i64 m) ∧ w'.cell? ⟨w.heap.size, 7, none⟩ = some (.int .i64 z))
          (go_keep)
          (first
            | (go_at_call 41; (with_reducible refine (any_any _ _ _).mono ?_); rintro e w1 ⟨rfl, rfl⟩; have hB1 := HX.out.drew; have x0 : (w.alloc (.cells #[.int .u8 o, .bool n, .int .i64 d, .int .i64 s, .bool u, .int .i64 f, .int .i64 m, .int .i64 z] 34)).drew.cell? ⟨w.heap.size, 0, none⟩ = some (.int .u8 o) := (hB1.cell 0).trans rfl; have x1 : (w.alloc (.cells #[.int .u8 o, .bool n, .int .i64 d, .int .i64 s, .bool u, .int .i64 f, .int .i64 m, .int .i64 z] 34)).drew.cell? ⟨w.heap.size, 1, none⟩ = some (.bool n) := (hB1.cell 1).trans rfl; have x2 : (w.alloc (.cells #[.int .u8 o, .bool n, .int .i64 d, .int .i64 s, .bool u, .int .i64 f, .int .i64 m, .int .i64 z] 34)).drew.cell? ⟨w.heap.size, 2, none⟩ = some (.int .i64 d) := (hB1.cell 2).trans rfl; have x3 : (w.alloc (.cells #[.int .u8 o, .bool n, .int .i64 d, .int .i64 s, .bool u, .int .i64 f, .int .i64 m, .int .i64 z] 34)).drew.cell? ⟨w.heap.size, 3, none⟩ = some (.int .i64 s) := (hB1.cell 3).trans rfl; have x4 : (w.alloc (.cells #[.int .u8 o, .bool n, .int .i64 d, .int .i64 s, .bool u, .int .i64 f, .int .i64 m, .int .i64 z] 34)).drew.cell? ⟨w.heap.size, 4, none⟩ = some (.bool u) := (hB1.cell 4).trans rfl; have x5 : (w.alloc (.cells #[.int .u8 o, .bool n, .int .i64 d, .int .i64 s, .bool u, .int .i64 f, .int .i64 m, .int .i64 z] 34)).drew.cell? ⟨w.heap.size, 5, none⟩ = some (.int .i64 f) := (hB1.cell 5).trans rfl; have x6 : (w.alloc (.cells #[.int .u8 o, .bool n, .int .i64 d, .int .i64 s, .bool u, .int .i64 f, .int .i64 m, .int .i64 z] 34)).drew.cell? ⟨w.heap.size, 6, none⟩ = some (.int .i64 m) := (hB1.cell 6).trans rfl; have x7 : (w.alloc (.cells #[.int .u8 o, .bool n, .int .i64 d, .int .i64 s, .bool u, .int .i64 f, .int .i64 m, .int .i64 z] 34)).drew.cell? ⟨w.heap.size, 7, none⟩ = some (.int .i64 z) := (hB1.cell 7).trans rfl)
            | (go_at_call 42; (with_reducible refine (HO.out _).mono ?_); rintro e w2 ⟨rfl, hn2⟩; have hN2 := New.then (Below.drew HN.out) hn2; have hB2 := HX.out.drew.below hn2 HX.out.drew.lt; have x0 : w2.cell? ⟨w.heap.size, 0, none⟩ = some (.int .u8 o) := (hB2.cell 0).trans rfl; have x1 : w2.cell? ⟨w.heap.size, 1, none⟩ = some (.bool n) := (hB2.cell 1).trans rfl; have x2 : w2.cell? ⟨w.heap.size, 2, none⟩ = some (.int .i64 d) := (hB2.cell 2).trans rfl; have x3 : w2.cell? ⟨w.heap.size, 3, none⟩ = some (.int .i64 s) := (hB2.cell 3).trans rfl; have x4 : w2.cell? ⟨w.heap.size, 4, none⟩ = some (.bool u) := (hB2.cell 4).trans rfl; have x5 : w2.cell? ⟨w.heap.size, 5, none⟩ = some (.int .i64 f) := (hB2.cell 5).trans rfl; have x6 : w2.cell? ⟨w.heap.size, 6, none⟩ = some (.int .i64 m) := (hB2.cell 6).trans rfl; have x7 : w2.cell? ⟨w.heap.size, 7, none⟩ = some (.int .i64 z) := (hB2.cell 7).trans rfl)
            | (go_at_call 43; (with_reducible refine (fit_any _ _ _ _ _ _ _ _ _ _).mono ?_); rintro e w3 ⟨rfl, hn3⟩; have hN3 := New.then hN2 hn3; have hB3 := hB2.below hn3 hB2.lt; have x0 : w3.cell? ⟨w.heap.size, 0, none⟩ = some (.int .u8 o) := (hB3.cell 0).trans rfl; have x1 : w3.cell? ⟨w.heap.size, 1, none⟩ = some (.bool n) := (hB3.cell 1).trans rfl; have x2 : w3.cell? ⟨w.heap.size, 2, none⟩ = some (.int .i64 d) := (hB3.cell 2).trans rfl; have x3 : w3.cell? ⟨w.heap.size, 3, none⟩ = some (.int .i64 s) := (hB3.cell 3).trans rfl; have x4 : w3.cell? ⟨w.heap.size, 4, none⟩ = some (.bool u) := (hB3.cell 4).trans rfl; have x5 : w3.cell? ⟨w.heap.size, 5, none⟩ = some (.int .i64 f) := (hB3.cell 5).trans rfl; have x6 : w3.cell? ⟨w.heap.size, 6, none⟩ = some (.int .i64 m) := (hB3.cell 6).trans rfl; have x7 : w3.cell? ⟨w.heap.size, 7, none⟩ = some (.int .i64 z) := (hB3.cell 7).trans rfl)))
      | fail
    all_goals (go_wp2; go_ret; exact ⟨rfl, hN3⟩)
end Go.Proofs.Ytlchimbaclenaaa.ins
