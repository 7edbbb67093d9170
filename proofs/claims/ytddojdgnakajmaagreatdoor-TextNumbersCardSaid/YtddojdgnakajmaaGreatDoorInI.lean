/-
  Contracts of the document's answer for ins: what it calls to tell what is right.
-/
import Derived.Test.YtddojdgnakajmaaGreatDoorInD
namespace Go.Proofs.YtddojdgnakajmaaGreatDoor.ins
open Go.RowKit Go.Proofs.YtddojdgnakajmaaGreatDoor.mem Go.Proofs.YtddojdgnakajmaaGreatDoor.kit
set_option linter.unusedVariables false

theorem target_any (n : Int) (w : World) : Calls Tryz.prog 116 #[.int .i64 n] w fun e w' => e = .returned (.bool (tgt n)) ∧ w = w' := by
  by_cases h0 : 0 ≤ n
  · by_cases h1 : n ≤ 9
    · have H : Hid (tgt n = true) := Lib.hid (by simp [tgt, h0, h1])
      go_enter Tryz.func116, Tryz.ntmps116
      go_wp2
      go_ret
      exact ⟨ret_bool H.out.symm, rfl⟩
    · have H : Hid (tgt n = false) := Lib.hid (by simp [tgt, h0, h1])
      go_enter Tryz.func116, Tryz.ntmps116
      go_wp2
      go_ret
      exact ⟨ret_bool H.out.symm, rfl⟩
  · have H : Hid (tgt n = false) := Lib.hid (by simp [tgt, h0])
    go_enter Tryz.func116, Tryz.ntmps116
    go_wp2
    go_ret
    exact ⟨ret_bool H.out.symm, rfl⟩
theorem register_any (n : Int) (w : World) : Calls Tryz.prog 118 #[.int .i64 n] w fun e w' => e = .returned (.bool (reg n)) ∧ w = w' := by
  by_cases h0 : 0 ≤ n
  · by_cases h1 : n ≤ 10
    · have H : Hid (reg n = true) := Lib.hid (by simp [reg, h0, h1])
      go_enter Tryz.func118, Tryz.ntmps118
      go_wp2
      go_ret
      exact ⟨ret_bool H.out.symm, rfl⟩
    · have H : Hid (reg n = false) := Lib.hid (by simp [reg, h0, h1])
      go_enter Tryz.func118, Tryz.ntmps118
      go_wp2
      go_ret
      exact ⟨ret_bool H.out.symm, rfl⟩
  · have H : Hid (reg n = false) := Lib.hid (by simp [reg, h0])
    go_enter Tryz.func118, Tryz.ntmps118
    go_wp2
    go_ret
    exact ⟨ret_bool H.out.symm, rfl⟩

theorem far_any (o : Int) (n : Bool) (d s : Int) (u : Bool) (f m z : Int) (w : World) : Calls Tryz.prog 119 #[.agg #[.int .u8 o, .bool n, .int .i64 d, .int .i64 s, .bool u, .int .i64 f, .int .i64 m, .int .i64 z]] w fun e w' => e = .returned (.bool (far f)) ∧ New w w' := by
  have HN := Lib.hid (new1 w (.cells #[.int .u8 o, .bool n, .int .i64 d, .int .i64 s, .bool u, .int .i64 f, .int .i64 m, .int .i64 z] 41))
  by_cases h0 : -32768 ≤ f
  · by_cases h1 : f ≤ 32767
    · have H : Hid (far f = true) := Lib.hid (by simp [far, h0, h1])
      have h2 : f < 32768 := by omega
      go_enter Tryz.func119, Tryz.ntmps119
      go_wp2
      go_ret
      exact ⟨ret_bool H.out.symm, HN.out⟩
    · have H : Hid (far f = false) := Lib.hid (by simp [far, h0, h1])
      have h2 : ¬ f < 32768 := by omega
      go_enter Tryz.func119, Tryz.ntmps119
      go_wp2
      go_ret
      exact ⟨ret_bool H.out.symm, HN.out⟩
  · have H : Hid (far f = false) := Lib.hid (by simp [far, h0])
    go_enter Tryz.func119, Tryz.ntmps119
    go_wp2
    go_ret
    exact ⟨ret_bool H.out.symm, HN.out⟩
theorem cond_any (o : Int) (n : Bool) (d s : Int) (u : Bool) (f m z : Int) (w : World) : Calls Tryz.prog 121 #[.agg #[.int .u8 o, .bool n, .int .i64 d, .int .i64 s, .bool u, .int .i64 f, .int .i64 m, .int .i64 z]] w fun e w' => e = .returned (.bool (cond ⟨o, n, d, s, u, f, m, z⟩)) ∧ New w w' := by
  have HN := Lib.hid (new1 w (.cells #[.int .u8 o, .bool n, .int .i64 d, .int .i64 s, .bool u, .int .i64 f, .int .i64 m, .int .i64 z] 41))
  by_cases h0 : 17 ≤ o
  · by_cases h1 : o ≤ 27
    · have H : Hid (cond ⟨o, n, d, s, u, f, m, z⟩ = true) := Lib.hid (by simp [cond, h0, h1])
      go_enter Tryz.func121, Tryz.ntmps121
      go_wp2
      go_ret
      exact ⟨ret_bool H.out.symm, HN.out⟩
    · have H : Hid (cond ⟨o, n, d, s, u, f, m, z⟩ = false) := Lib.hid (by simp [cond, h0, h1])
      go_enter Tryz.func121, Tryz.ntmps121
      go_wp2
      go_ret
      exact ⟨ret_bool H.out.symm, HN.out⟩
  · have H : Hid (cond ⟨o, n, d, s, u, f, m, z⟩ = false) := Lib.hid (by simp [cond, h0])
    go_enter Tryz.func121, Tryz.ntmps121
    go_wp2
    go_ret
    exact ⟨ret_bool H.out.symm, HN.out⟩
theorem sized_any (o : Int) (n : Bool) (d s : Int) (u : Bool) (f m z : Int) (w : World) : Calls Tryz.prog 120 #[.agg #[.int .u8 o, .bool n, .int .i64 d, .int .i64 s, .bool u, .int .i64 f, .int .i64 m, .int .i64 z]] w fun e w' => e = .returned (.bool (sizd z)) ∧ New w w' := by
  have HN := Lib.hid (new1 w (.cells #[.int .u8 o, .bool n, .int .i64 d, .int .i64 s, .bool u, .int .i64 f, .int .i64 m, .int .i64 z] 41))
  go_enter Tryz.func120, Tryz.ntmps120
  go_wp2
  all_goals
    go_ret
    refine ⟨ret_bool ?_, new1 w _⟩
    simp_all [sizd]
    try (rw [Bool.eq_iff_iff]; simp; omega)
theorem second_any (o : Int) (n : Bool) (d s : Int) (u : Bool) (f m z : Int) (w : World) : Calls Tryz.prog 117 #[.agg #[.int .u8 o, .bool n, .int .i64 d, .int .i64 s, .bool u, .int .i64 f, .int .i64 m, .int .i64 z]] w fun e w' => e = .returned (.bool (sec u s m)) ∧ New w w' := by
  have HN := Lib.hid (new1 w (.cells #[.int .u8 o, .bool n, .int .i64 d, .int .i64 s, .bool u, .int .i64 f, .int .i64 m, .int .i64 z] 41))
  cases u
  all_goals
    go_enter Tryz.func117, Tryz.ntmps117
    go_wp2_with (go_at_call 118; refine (register_any _ _).mono ?_; rintro e w1 ⟨rfl, rfl⟩)
    all_goals
      go_ret
      refine ⟨ret_bool ?_, new1 w _⟩
      simp_all [sec, fits]
      try (first | rfl | omega)
end Go.Proofs.YtddojdgnakajmaaGreatDoor.ins

namespace Go.Proofs.YtddojdgnakajmaaGreatDoor.ins
open Go.RowKit Go.Proofs.YtddojdgnakajmaaGreatDoor.mem Go.Proofs.YtddojdgnakajmaaGreatDoor.kit
set_option linter.unusedVariables false
set_option linter.unusedSimpArgs false

theorem bcell {W w1 : World} (hb : Below W.heap.size W w1) : (∀ b o, b < W.heap.size → w1.cell? ⟨b, o, none⟩ = W.cell? ⟨b, o, none⟩) :=
  fun b o h => hb.cell (p := ⟨b, o, none⟩) h

set_option maxRecDepth 100000 in
set_option maxHeartbeats 2000000 in
theorem rright_a (o : Int) (n : Bool) (d s : Int) (u : Bool) (f m z : Int) (h0 : 1 ≤ o) (h1 : o ≤ 12) (w : World) :
    Calls Tryz.prog 53 #[.agg #[.int .u8 o, .bool n, .int .i64 d, .int .i64 s, .bool u, .int .i64 f, .int .i64 m, .int .i64 z]] w fun e w' => e = .returned (.bool (tgt d && (sec u s m && (decide (f = 0) && decide (z = 0))))) ∧ New w w' := by
  go_enter Tryz.func53, Tryz.ntmps53
  go_wp2_with (first
    | (go_at_call 116; (with_reducible refine (target_any _ _).mono ?_); rintro e w1 ⟨rfl, rfl⟩)
    | (go_at_call 118; (with_reducible refine (register_any _ _).mono ?_); rintro e w1 ⟨rfl, rfl⟩)
    | (go_at_call 117; (with_reducible refine (second_any _ _ _ _ _ _ _ _ _).mono ?_); rintro e w1 ⟨rfl, hn1⟩; have hk1 := bcell hn1; have hz1 : w.heap.size < w1.heap.size := (by have := hn1.size; (try simp at this); omega))
    | (go_at_call 119; (with_reducible refine (far_any _ _ _ _ _ _ _ _ _).mono ?_); rintro e w2 ⟨rfl, hn2⟩; have hk2 := bcell hn2; have hz2 : w.heap.size < w2.heap.size := (by have := hn2.size; (try simp at this); omega))
    | (go_at_call 120; (with_reducible refine (sized_any _ _ _ _ _ _ _ _ _).mono ?_); rintro e w3 ⟨rfl, hn3⟩; have hk3 := bcell hn3; have hz3 : w.heap.size < w3.heap.size := (by have := hn3.size; (try simp at this); omega))
    | (go_at_call 121; (with_reducible refine (cond_any _ _ _ _ _ _ _ _ _).mono ?_); rintro e w4 ⟨rfl, hn4⟩; have hk4 := bcell hn4; have hz4 : w.heap.size < w4.heap.size := (by have := hn4.size; (try simp at this); omega)))
  all_goals
    go_ret
    refine ⟨ret_bool ?_, by (first | exact new1 w _ | exact New.then (new1 w _) hn1 | exact New.then (new1 w _) hn2 | exact New.then (New.then (new1 w _) hn2) hn3 | exact New.then (New.then (New.then (new1 w _) hn2) hn3) hn1 | exact New.then (new1 w _) hn4 | exact New.then (New.then (new1 w _) hn4) hn2 | exact New.then (New.then (New.then (new1 w _) hn4) hn2) hn1)⟩
    rw [Bool.eq_iff_iff]
    simp_all

set_option maxRecDepth 100000 in
set_option maxHeartbeats 2000000 in
theorem rright_b (n : Bool) (d s : Int) (u : Bool) (f m z : Int)  (w : World) :
    Calls Tryz.prog 53 #[.agg #[.int .u8 13, .bool n, .int .i64 d, .int .i64 s, .bool u, .int .i64 f, .int .i64 m, .int .i64 z]] w fun e w' => e = .returned (.bool (tgt d && (decide (s = 0) && (!u && (decide (f = 0) && (decide (m = 0) && decide (z = 0))))))) ∧ New w w' := by
  have hq : ∀ W : World, (Op.equalIn 10000 41 (.agg #[.int .u8 13, .bool n, .int .i64 d, .int .i64 s, .bool u, .int .i64 f, .int .i64 m, .int .i64 z]) (.agg #[.int .u8 13, .bool n, .int .i64 d, .int .i64 0, .bool false, .int .i64 0, .int .i64 0, .int .i64 0])).run Tryz.prog W = .ok (sameB 13 n d s u f m z 13 n d 0 false 0 0 0) W := fun W => eq_ins _ _ _ _ _ _ _ _ _ _ _ _ _ _ _ _ W
  obtain ⟨E, hE⟩ : ∃ E, sameB 13 n d s u f m z 13 n d 0 false 0 0 0 = E := ⟨_, rfl⟩
  rw [hE] at hq
  have HE := Lib.hid hE
  clear hE
  go_enter Tryz.func53, Tryz.ntmps53
  go_wp2_with (first
    | (go_at_call 116; (with_reducible refine (target_any _ _).mono ?_); rintro e w1 ⟨rfl, rfl⟩)
    | (go_at_call 118; (with_reducible refine (register_any _ _).mono ?_); rintro e w1 ⟨rfl, rfl⟩)
    | (go_at_call 117; (with_reducible refine (second_any _ _ _ _ _ _ _ _ _).mono ?_); rintro e w1 ⟨rfl, hn1⟩; have hk1 := bcell hn1; have hz1 : w.heap.size < w1.heap.size := (by have := hn1.size; (try simp at this); omega))
    | (go_at_call 119; (with_reducible refine (far_any _ _ _ _ _ _ _ _ _).mono ?_); rintro e w2 ⟨rfl, hn2⟩; have hk2 := bcell hn2; have hz2 : w.heap.size < w2.heap.size := (by have := hn2.size; (try simp at this); omega))
    | (go_at_call 120; (with_reducible refine (sized_any _ _ _ _ _ _ _ _ _).mono ?_); rintro e w3 ⟨rfl, hn3⟩; have hk3 := bcell hn3; have hz3 : w.heap.size < w3.heap.size := (by have := hn3.size; (try simp at this); omega))
    | (go_at_call 121; (with_reducible refine (cond_any _ _ _ _ _ _ _ _ _).mono ?_); rintro e w4 ⟨rfl, hn4⟩; have hk4 := bcell hn4; have hz4 : w.heap.size < w4.heap.size := (by have := hn4.size; (try simp at this); omega)))
  all_goals
    go_ret
    refine ⟨ret_bool ?_, by (first | exact new1 w _ | exact New.then (new1 w _) hn1 | exact New.then (new1 w _) hn2 | exact New.then (New.then (new1 w _) hn2) hn3 | exact New.then (New.then (New.then (new1 w _) hn2) hn3) hn1 | exact New.then (new1 w _) hn4 | exact New.then (New.then (new1 w _) hn4) hn2 | exact New.then (New.then (New.then (new1 w _) hn4) hn2) hn1)⟩
    (try rw [← HE.out])
    rw [Bool.eq_iff_iff]
    simp_all [sameB]

set_option maxRecDepth 100000 in
set_option maxHeartbeats 2000000 in
theorem rright_c (n : Bool) (d s : Int) (u : Bool) (f m z : Int)  (w : World) :
    Calls Tryz.prog 53 #[.agg #[.int .u8 14, .bool n, .int .i64 d, .int .i64 s, .bool u, .int .i64 f, .int .i64 m, .int .i64 z]] w fun e w' => e = .returned (.bool (tgt d && (reg s && (far f && (sizd z && (!n && (!u && decide (m = 0)))))))) ∧ New w w' := by
  have hq : ∀ W : World, (Op.equalIn 10000 41 (.agg #[.int .u8 14, .bool n, .int .i64 d, .int .i64 s, .bool u, .int .i64 f, .int .i64 m, .int .i64 z]) (.agg #[.int .u8 14, .bool false, .int .i64 d, .int .i64 s, .bool false, .int .i64 f, .int .i64 0, .int .i64 z])).run Tryz.prog W = .ok (sameB 14 n d s u f m z 14 false d s false f 0 z) W := fun W => eq_ins _ _ _ _ _ _ _ _ _ _ _ _ _ _ _ _ W
  obtain ⟨E, hE⟩ : ∃ E, sameB 14 n d s u f m z 14 false d s false f 0 z = E := ⟨_, rfl⟩
  rw [hE] at hq
  have HE := Lib.hid hE
  clear hE
  go_enter Tryz.func53, Tryz.ntmps53
  go_wp2_with (first
    | (go_at_call 116; (with_reducible refine (target_any _ _).mono ?_); rintro e w1 ⟨rfl, rfl⟩)
    | (go_at_call 118; (with_reducible refine (register_any _ _).mono ?_); rintro e w1 ⟨rfl, rfl⟩)
    | (go_at_call 117; (with_reducible refine (second_any _ _ _ _ _ _ _ _ _).mono ?_); rintro e w1 ⟨rfl, hn1⟩; have hk1 := bcell hn1; have hz1 : w.heap.size < w1.heap.size := (by have := hn1.size; (try simp at this); omega))
    | (go_at_call 119; (with_reducible refine (far_any _ _ _ _ _ _ _ _ _).mono ?_); rintro e w2 ⟨rfl, hn2⟩; have hk2 := bcell hn2; have hz2 : w.heap.size < w2.heap.size := (by have := hn2.size; (try simp at this); omega))
    | (go_at_call 120; (with_reducible refine (sized_any _ _ _ _ _ _ _ _ _).mono ?_); rintro e w3 ⟨rfl, hn3⟩; have hk3 := bcell hn3; have hz3 : w.heap.size < w3.heap.size := (by have := hn3.size; (try simp at this); omega))
    | (go_at_call 121; (with_reducible refine (cond_any _ _ _ _ _ _ _ _ _).mono ?_); rintro e w4 ⟨rfl, hn4⟩; have hk4 := bcell hn4; have hz4 : w.heap.size < w4.heap.size := (by have := hn4.size; (try simp at this); omega)))
  all_goals
    go_ret
    refine ⟨ret_bool ?_, by (first | exact new1 w _ | exact New.then (new1 w _) hn1 | exact New.then (new1 w _) hn2 | exact New.then (New.then (new1 w _) hn2) hn3 | exact New.then (New.then (New.then (new1 w _) hn2) hn3) hn1 | exact New.then (new1 w _) hn4 | exact New.then (New.then (new1 w _) hn4) hn2 | exact New.then (New.then (New.then (new1 w _) hn4) hn2) hn1)⟩
    (try rw [← HE.out])
    rw [Bool.eq_iff_iff]
    simp_all [sameB]

set_option maxRecDepth 100000 in
set_option maxHeartbeats 2000000 in
theorem rright_d (n : Bool) (d s : Int) (u : Bool) (f m z : Int)  (w : World) :
    Calls Tryz.prog 53 #[.agg #[.int .u8 15, .bool n, .int .i64 d, .int .i64 s, .bool u, .int .i64 f, .int .i64 m, .int .i64 z]] w fun e w' => e = .returned (.bool (reg d && (far f && (sizd z && (sec u s m && !n))))) ∧ New w w' := by
  go_enter Tryz.func53, Tryz.ntmps53
  go_wp2_with (first
    | (go_at_call 116; (with_reducible refine (target_any _ _).mono ?_); rintro e w1 ⟨rfl, rfl⟩)
    | (go_at_call 118; (with_reducible refine (register_any _ _).mono ?_); rintro e w1 ⟨rfl, rfl⟩)
    | (go_at_call 117; (with_reducible refine (second_any _ _ _ _ _ _ _ _ _).mono ?_); rintro e w1 ⟨rfl, hn1⟩; have hk1 := bcell hn1; have hz1 : w.heap.size < w1.heap.size := (by have := hn1.size; (try simp at this); omega))
    | (go_at_call 119; (with_reducible refine (far_any _ _ _ _ _ _ _ _ _).mono ?_); rintro e w2 ⟨rfl, hn2⟩; have hk2 := bcell hn2; have hz2 : w.heap.size < w2.heap.size := (by have := hn2.size; (try simp at this); omega))
    | (go_at_call 120; (with_reducible refine (sized_any _ _ _ _ _ _ _ _ _).mono ?_); rintro e w3 ⟨rfl, hn3⟩; have hk3 := bcell hn3; have hz3 : w.heap.size < w3.heap.size := (by have := hn3.size; (try simp at this); omega))
    | (go_at_call 121; (with_reducible refine (cond_any _ _ _ _ _ _ _ _ _).mono ?_); rintro e w4 ⟨rfl, hn4⟩; have hk4 := bcell hn4; have hz4 : w.heap.size < w4.heap.size := (by have := hn4.size; (try simp at this); omega)))
  all_goals
    go_ret
    refine ⟨ret_bool ?_, by (first | exact new1 w _ | exact New.then (new1 w _) hn1 | exact New.then (new1 w _) hn2 | exact New.then (New.then (new1 w _) hn2) hn3 | exact New.then (New.then (New.then (new1 w _) hn2) hn3) hn1 | exact New.then (new1 w _) hn4 | exact New.then (New.then (new1 w _) hn4) hn2 | exact New.then (New.then (New.then (new1 w _) hn4) hn2) hn1)⟩
    rw [Bool.eq_iff_iff]
    simp_all

set_option maxRecDepth 100000 in
set_option maxHeartbeats 2000000 in
theorem rright_e (n : Bool) (d s : Int) (u : Bool) (f m z : Int)  (w : World) :
    Calls Tryz.prog 53 #[.agg #[.int .u8 16, .bool n, .int .i64 d, .int .i64 s, .bool u, .int .i64 f, .int .i64 m, .int .i64 z]] w fun e w' => e = .returned (.bool (far f && (!n && (decide (d = 0) && (decide (s = 0) && (!u && (decide (m = 0) && decide (z = 0)))))))) ∧ New w w' := by
  have hq : ∀ W : World, (Op.equalIn 10000 41 (.agg #[.int .u8 16, .bool n, .int .i64 d, .int .i64 s, .bool u, .int .i64 f, .int .i64 m, .int .i64 z]) (.agg #[.int .u8 16, .bool false, .int .i64 0, .int .i64 0, .bool false, .int .i64 f, .int .i64 0, .int .i64 0])).run Tryz.prog W = .ok (sameB 16 n d s u f m z 16 false 0 0 false f 0 0) W := fun W => eq_ins _ _ _ _ _ _ _ _ _ _ _ _ _ _ _ _ W
  obtain ⟨E, hE⟩ : ∃ E, sameB 16 n d s u f m z 16 false 0 0 false f 0 0 = E := ⟨_, rfl⟩
  rw [hE] at hq
  have HE := Lib.hid hE
  clear hE
  go_enter Tryz.func53, Tryz.ntmps53
  go_wp2_with (first
    | (go_at_call 116; (with_reducible refine (target_any _ _).mono ?_); rintro e w1 ⟨rfl, rfl⟩)
    | (go_at_call 118; (with_reducible refine (register_any _ _).mono ?_); rintro e w1 ⟨rfl, rfl⟩)
    | (go_at_call 117; (with_reducible refine (second_any _ _ _ _ _ _ _ _ _).mono ?_); rintro e w1 ⟨rfl, hn1⟩; have hk1 := bcell hn1; have hz1 : w.heap.size < w1.heap.size := (by have := hn1.size; (try simp at this); omega))
    | (go_at_call 119; (with_reducible refine (far_any _ _ _ _ _ _ _ _ _).mono ?_); rintro e w2 ⟨rfl, hn2⟩; have hk2 := bcell hn2; have hz2 : w.heap.size < w2.heap.size := (by have := hn2.size; (try simp at this); omega))
    | (go_at_call 120; (with_reducible refine (sized_any _ _ _ _ _ _ _ _ _).mono ?_); rintro e w3 ⟨rfl, hn3⟩; have hk3 := bcell hn3; have hz3 : w.heap.size < w3.heap.size := (by have := hn3.size; (try simp at this); omega))
    | (go_at_call 121; (with_reducible refine (cond_any _ _ _ _ _ _ _ _ _).mono ?_); rintro e w4 ⟨rfl, hn4⟩; have hk4 := bcell hn4; have hz4 : w.heap.size < w4.heap.size := (by have := hn4.size; (try simp at this); omega)))
  all_goals
    go_ret
    refine ⟨ret_bool ?_, by (first | exact new1 w _ | exact New.then (new1 w _) hn1 | exact New.then (new1 w _) hn2 | exact New.then (New.then (new1 w _) hn2) hn3 | exact New.then (New.then (New.then (new1 w _) hn2) hn3) hn1 | exact New.then (new1 w _) hn4 | exact New.then (New.then (new1 w _) hn4) hn2 | exact New.then (New.then (New.then (new1 w _) hn4) hn2) hn1)⟩
    (try rw [← HE.out])
    rw [Bool.eq_iff_iff]
    simp_all [sameB]

set_option maxRecDepth 100000 in
set_option maxHeartbeats 2000000 in
theorem rright_f (o : Int) (n : Bool) (d s : Int) (u : Bool) (f m z : Int) (h0 : 17 ≤ o) (h1 : o ≤ 27) (w : World) :
    Calls Tryz.prog 53 #[.agg #[.int .u8 o, .bool n, .int .i64 d, .int .i64 s, .bool u, .int .i64 f, .int .i64 m, .int .i64 z]] w fun e w' => e = .returned (.bool (reg d && (far f && (sec u s m && decide (z = 0))))) ∧ New w w' := by
  have m1 : ¬ o ≤ 12 := by omega
  have m2 : 1 ≤ o := by omega
  have n2 : (o == 13) = false := by simp; omega
  have n3 : (o == 14) = false := by simp; omega
  have n4 : (o == 15) = false := by simp; omega
  have n5 : (o == 16) = false := by simp; omega
  have HC : Hid (cond ⟨o, n, d, s, u, f, m, z⟩ = true) := Lib.hid (by simp [cond, h0, h1])
  go_enter Tryz.func53, Tryz.ntmps53
  go_wp2_with (first
    | (go_at_call 116; (with_reducible refine (target_any _ _).mono ?_); rintro e w1 ⟨rfl, rfl⟩)
    | (go_at_call 118; (with_reducible refine (register_any _ _).mono ?_); rintro e w1 ⟨rfl, rfl⟩)
    | (go_at_call 117; (with_reducible refine (second_any _ _ _ _ _ _ _ _ _).mono ?_); rintro e w1 ⟨rfl, hn1⟩; have hk1 := bcell hn1; have hz1 : w.heap.size < w1.heap.size := (by have := hn1.size; (try simp at this); omega))
    | (go_at_call 119; (with_reducible refine (far_any _ _ _ _ _ _ _ _ _).mono ?_); rintro e w2 ⟨rfl, hn2⟩; have hk2 := bcell hn2; have hz2 : w.heap.size < w2.heap.size := (by have := hn2.size; (try simp at this); omega))
    | (go_at_call 120; (with_reducible refine (sized_any _ _ _ _ _ _ _ _ _).mono ?_); rintro e w3 ⟨rfl, hn3⟩; have hk3 := bcell hn3; have hz3 : w.heap.size < w3.heap.size := (by have := hn3.size; (try simp at this); omega))
    | (go_at_call 121; (with_reducible refine (cond_any _ _ _ _ _ _ _ _ _).mono ?_); rintro e w4 ⟨rfl, hn4⟩; have hk4 := bcell hn4; have hz4 : w.heap.size < w4.heap.size := (by have := hn4.size; (try simp at this); omega); rw [HC.out]))
  all_goals
    go_ret
    refine ⟨ret_bool ?_, by (first | exact new1 w _ | exact New.then (new1 w _) hn1 | exact New.then (new1 w _) hn2 | exact New.then (New.then (new1 w _) hn2) hn3 | exact New.then (New.then (New.then (new1 w _) hn2) hn3) hn1 | exact New.then (new1 w _) hn4 | exact New.then (New.then (new1 w _) hn4) hn2 | exact New.then (New.then (New.then (new1 w _) hn4) hn2) hn1)⟩
    rw [Bool.eq_iff_iff]
    simp_all

set_option maxRecDepth 100000 in
set_option maxHeartbeats 2000000 in
theorem rright_g (o : Int) (n : Bool) (d s : Int) (u : Bool) (f m z : Int) (hc : o < 1 ∨ 27 < o) (w : World) :
    Calls Tryz.prog 53 #[.agg #[.int .u8 o, .bool n, .int .i64 d, .int .i64 s, .bool u, .int .i64 f, .int .i64 m, .int .i64 z]] w fun e w' => e = .returned (.bool (decide (o = 28) && (!n && (decide (d = 0) && (decide (s = 0) && (!u && (decide (f = 0) && (decide (m = 0) && decide (z = 0))))))))) ∧ New w w' := by
  have n2 : (o == 13) = false := by simp; omega
  have n3 : (o == 14) = false := by simp; omega
  have n4 : (o == 15) = false := by simp; omega
  have n5 : (o == 16) = false := by simp; omega
  have HC : Hid (cond ⟨o, n, d, s, u, f, m, z⟩ = false) := Lib.hid (by simp [cond]; omega)
  have hq : ∀ W : World, (Op.equalIn 10000 41 (.agg #[.int .u8 o, .bool n, .int .i64 d, .int .i64 s, .bool u, .int .i64 f, .int .i64 m, .int .i64 z]) (.agg #[.int .u8 28, .bool false, .int .i64 0, .int .i64 0, .bool false, .int .i64 0, .int .i64 0, .int .i64 0])).run Tryz.prog W = .ok (sameB o n d s u f m z 28 false 0 0 false 0 0 0) W := fun W => eq_ins _ _ _ _ _ _ _ _ _ _ _ _ _ _ _ _ W
  obtain ⟨E, hE⟩ : ∃ E, sameB o n d s u f m z 28 false 0 0 false 0 0 0 = E := ⟨_, rfl⟩
  rw [hE] at hq
  have HE := Lib.hid hE
  clear hE
  rcases hc with hc | hc
  · have m1 : ¬ 1 ≤ o := by omega
    go_enter Tryz.func53, Tryz.ntmps53
    go_wp2_with (first
      | (go_at_call 116; (with_reducible refine (target_any _ _).mono ?_); rintro e w1 ⟨rfl, rfl⟩)
      | (go_at_call 118; (with_reducible refine (register_any _ _).mono ?_); rintro e w1 ⟨rfl, rfl⟩)
      | (go_at_call 117; (with_reducible refine (second_any _ _ _ _ _ _ _ _ _).mono ?_); rintro e w1 ⟨rfl, hn1⟩; have hk1 := bcell hn1; have hz1 : w.heap.size < w1.heap.size := (by have := hn1.size; (try simp at this); omega))
      | (go_at_call 119; (with_reducible refine (far_any _ _ _ _ _ _ _ _ _).mono ?_); rintro e w2 ⟨rfl, hn2⟩; have hk2 := bcell hn2; have hz2 : w.heap.size < w2.heap.size := (by have := hn2.size; (try simp at this); omega))
      | (go_at_call 120; (with_reducible refine (sized_any _ _ _ _ _ _ _ _ _).mono ?_); rintro e w3 ⟨rfl, hn3⟩; have hk3 := bcell hn3; have hz3 : w.heap.size < w3.heap.size := (by have := hn3.size; (try simp at this); omega))
      | (go_at_call 121; (with_reducible refine (cond_any _ _ _ _ _ _ _ _ _).mono ?_); rintro e w4 ⟨rfl, hn4⟩; have hk4 := bcell hn4; have hz4 : w.heap.size < w4.heap.size := (by have := hn4.size; (try simp at this); omega); rw [HC.out]))
    all_goals
      go_ret
      refine ⟨ret_bool ?_, by (first | exact new1 w _ | exact New.then (new1 w _) hn1 | exact New.then (new1 w _) hn2 | exact New.then (New.then (new1 w _) hn2) hn3 | exact New.then (New.then (New.then (new1 w _) hn2) hn3) hn1 | exact New.then (new1 w _) hn4 | exact New.then (New.then (new1 w _) hn4) hn2 | exact New.then (New.then (New.then (new1 w _) hn4) hn2) hn1)⟩
      (try rw [← HE.out])
      rw [Bool.eq_iff_iff]
      simp_all [sameB]
  · have m1 : ¬ o ≤ 12 := by omega
    have m2 : 1 ≤ o := by omega
    go_enter Tryz.func53, Tryz.ntmps53
    go_wp2_with (first
      | (go_at_call 116; (with_reducible refine (target_any _ _).mono ?_); rintro e w1 ⟨rfl, rfl⟩)
      | (go_at_call 118; (with_reducible refine (register_any _ _).mono ?_); rintro e w1 ⟨rfl, rfl⟩)
      | (go_at_call 117; (with_reducible refine (second_any _ _ _ _ _ _ _ _ _).mono ?_); rintro e w1 ⟨rfl, hn1⟩; have hk1 := bcell hn1; have hz1 : w.heap.size < w1.heap.size := (by have := hn1.size; (try simp at this); omega))
      | (go_at_call 119; (with_reducible refine (far_any _ _ _ _ _ _ _ _ _).mono ?_); rintro e w2 ⟨rfl, hn2⟩; have hk2 := bcell hn2; have hz2 : w.heap.size < w2.heap.size := (by have := hn2.size; (try simp at this); omega))
      | (go_at_call 120; (with_reducible refine (sized_any _ _ _ _ _ _ _ _ _).mono ?_); rintro e w3 ⟨rfl, hn3⟩; have hk3 := bcell hn3; have hz3 : w.heap.size < w3.heap.size := (by have := hn3.size; (try simp at this); omega))
      | (go_at_call 121; (with_reducible refine (cond_any _ _ _ _ _ _ _ _ _).mono ?_); rintro e w4 ⟨rfl, hn4⟩; have hk4 := bcell hn4; have hz4 : w.heap.size < w4.heap.size := (by have := hn4.size; (try simp at this); omega); rw [HC.out]))
    all_goals
      go_ret
      refine ⟨ret_bool ?_, by (first | exact new1 w _ | exact New.then (new1 w _) hn1 | exact New.then (new1 w _) hn2 | exact New.then (New.then (new1 w _) hn2) hn3 | exact New.then (New.then (New.then (new1 w _) hn2) hn3) hn1 | exact New.then (new1 w _) hn4 | exact New.then (New.then (new1 w _) hn4) hn2 | exact New.then (New.then (New.then (new1 w _) hn4) hn2) hn1)⟩
      (try rw [← HE.out])
      rw [Bool.eq_iff_iff]
      simp_all [sameB]
end Go.Proofs.YtddojdgnakajmaaGreatDoor.ins

namespace Go.Proofs.YtddojdgnakajmaaGreatDoor.ins
open Go.RowKit Go.Proofs.YtddojdgnakajmaaGreatDoor.mem Go.Proofs.YtddojdgnakajmaaGreatDoor.kit
set_option linter.unusedVariables false

theorem RRight_any (i : In) (w : World) : Calls Tryz.prog 53 #[i.val] w fun e w' => e = .returned (.bool (ok i)) ∧ New w w' := by
  obtain ⟨o, n, d, s, u, f, m, z⟩ := i
  unfold In.val
  rcases ops_cases o with ⟨h0, h1⟩ | rfl | rfl | rfl | rfl | ⟨h0, h1⟩ | rfl | h
  · have e : ok ⟨o, n, d, s, u, f, m, z⟩ = (tgt d && (sec u s m && (decide (f = 0) && decide (z = 0)))) := by unfold ok; rw [if_pos ⟨h0, h1⟩]
    rw [e]
    exact rright_a o n d s u f m z h0 h1 w
  · exact rright_b n d s u f m z w
  · exact rright_c n d s u f m z w
  · exact rright_d n d s u f m z w
  · exact rright_e n d s u f m z w
  · have e : ok ⟨o, n, d, s, u, f, m, z⟩ = (reg d && (far f && (sec u s m && decide (z = 0)))) := by
      unfold ok; rw [if_neg (by simp only; omega), if_neg (by simp only; omega), if_neg (by simp only; omega), if_neg (by simp only; omega), if_neg (by simp only; omega), if_pos ⟨h0, h1⟩]
    rw [e]
    exact rright_f o n d s u f m z h0 h1 w
  · have e : ok ⟨28, n, d, s, u, f, m, z⟩ = (decide ((28 : Int) = 28) && (!n && (decide (d = 0) && (decide (s = 0) && (!u && (decide (f = 0) && (decide (m = 0) && decide (z = 0)))))))) := by
      rw [decide_eq_true (rfl : (28 : Int) = 28), Bool.true_and]
      rfl
    rw [e]
    exact rright_g 28 n d s u f m z (by omega) w
  · have e : ok ⟨o, n, d, s, u, f, m, z⟩ = (decide (o = 28) && (!n && (decide (d = 0) && (decide (s = 0) && (!u && (decide (f = 0) && (decide (m = 0) && decide (z = 0)))))))) := by
      rw [ok_0 _ h, decide_eq_false (by omega), Bool.false_and]
    rw [e]
    exact rright_g o n d s u f m z (by omega) w

end Go.Proofs.YtddojdgnakajmaaGreatDoor.ins
