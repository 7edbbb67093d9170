/-
  The law: a filter cut off, and made longer.
-/
import Derived.Test.YtlchimbaclenaaaShH
namespace Go.Proofs.Ytlchimbaclenaaa.sh
open Go.RowKit Go.Proofs.Ytlchimbaclenaaa.mem Go.Proofs.Ytlchimbaclenaaa.kit Go.Proofs.Ytlchimbaclenaaa.ins
set_option linter.unusedVariables false

theorem RI.take {w : World} {A : Option Addr} {l : List In} (h : RI w A l) {a : Nat} (ha : a ≤ l.length) : RI w A (l.take a) := by
  have hlen : (l.take a).length = a := by rw [List.length_take]; omega
  refine ⟨by rw [vi_length], fun hp => ?_⟩
  obtain ⟨ad, e, hb, hc⟩ := h.2 (by omega)
  refine ⟨ad, e, hb, fun j u hu => hc j u ?_⟩
  have hj : j < (vi (l.take a)).length := (List.getElem?_eq_some_iff.1 hu).1
  rw [← List.take_append_drop a l, vi_append, List.getElem?_append_left hj]
  exact hu
theorem own_none (w : World) : (w.alloc (.cells #[] 34)).ownsRow w.heap.size 34 8 (.slice (some ⟨w.heap.size, 0, none⟩) 0 0) 0 (vi []) := by
  have h := World.ownsRow_made (e := 34) (base := w.heap.size) (size := 8) w #[] 0 (Nat.le_refl _) (by unfold maxLen; omega) (by simp)
  exact h
abbrev exC : Array Value := #[.int .u8 28, .bool false, .int .i64 0, .int .i64 0, .bool false, .int .i64 0, .int .i64 0, .int .i64 0]

theorem check_m (A : Option Addr) (n c : Nat) (l : List In) (x : Int) (a : Nat) (w : World) (hn : n + 1 = l.length) (hl : n + 1 ≤ 1099511627776) (hA : RI w A l) (h : chk l = (x, a)) :
    Calls Try.prog 9 #[.slice A (n + 1) c] w fun e w' => e = .returned (.agg #[.int .i64 x, .int .i64 (a : Int)]) ∧ New w w' := check_x A (n + 1) c l x a w hn hl hA h
theorem ri_more {w : World} {A : Option Addr} {n : Nat} {l : List In} (hn : n + 1 = (l ++ [iX]).length) (h : Reads w w.heap.size 8 A (0 + n + 1) (vi [] ++ vi l ++ vi [⟨28, false, 0, 0, false, 0, 0, 0⟩])) : RI w A (l ++ [iX]) := by
  show Reads w w.heap.size 8 A (l ++ [iX]).length (vi (l ++ [iX]))
  rw [← hn, vi_append]
  rw [Nat.zero_add] at h
  exact h

set_option maxRecDepth 100000 in
set_option maxHeartbeats 8000000 in
theorem FormCut_any (A : Option Addr) (n c : Nat) (at0 : Int) (l : List In) (w : World) (hn : n = l.length) (hc : n ≤ c ∧ c ≤ maxLen) (hA : RI w A l) (a0 : -9223372036854775808 ≤ at0) (a1 : at0 ≤ 9223372036854775807) :
    Calls Try.prog 6 #[.slice A n c, .int .i64 at0] w fun e w' => e = .returned (.bool true) ∧ New w w' := by
  obtain ⟨i0, hi, hz0, hz1, hz2⟩ := info_parts ins_info
  by_cases h3 : 300 < n
  · have t1 : (300 : Int) < (n : Int) := by omega
    clear hn hA
    go_enter Try.func6, Try.ntmps6
    go_wp2_with (go_at_call 7; refine (awake_any _).mono ?_; rintro e w1 ⟨rfl, hn1⟩)
    go_ret
    exact ⟨rfl, hn1⟩
  · have hl : n ≤ 1099511627776 := by omega
    obtain ⟨x, hx⟩ : ∃ x, chk l = x := ⟨_, rfl⟩
    obtain ⟨xe, xa⟩ := x
    have HX := Lib.hid hx
    have HN := Lib.hid hn
    have HA := Lib.hid hA
    have t1 : ¬ (300 : Int) < (n : Int) := by omega
    have hfe := run_err
    clear hn hA hx
    by_cases h0 : xe = 0
    · subst h0
      have hw : Well l := chk_0 (by rw [HX.out])
      have HWE := Lib.hid hw
      have HMORE := Lib.hid (show chk (l ++ [iX]) = (103, n) by rw [chk_more hw (by rw [← HN.out]; omega) iX rfl, HN.out])
      have HML : Hid (n + 1 = (l ++ [iX]).length) := Lib.hid (by simp [HN.out])
      have HAL : Hid (Reads w w.heap.size 8 A n (vi l)) := Lib.hid (by have h : Reads w w.heap.size 8 A l.length (vi l) := HA.out; rw [← HN.out] at h; exact h)
      clear hw
      rcases (show at0 < 1 ∨ (n : Int) ≤ at0 ∨ ∃ k : Nat, at0 = (k : Int) ∧ 1 ≤ k ∧ k < n by
        rcases Int.lt_or_le at0 1 with h | h
        · exact .inl h
        · rcases Int.lt_or_le at0 n with h' | h'
          · exact .inr (.inr ⟨at0.toNat, by omega, by omega, by omega⟩)
          · exact .inr (.inl h')) with h | h | ⟨a, rfl, ha1, ha2⟩
      · go_enter Try.func6, Try.ntmps6
        go_wp2_with (first
          | (go_at_call 7; refine (awake_any _).mono ?_; rintro e w1 ⟨rfl, hn1⟩)
          | (go_at_call 9; refine (check_x A n c l 0 xa _ HN.out hl (HA.out.new hn1) HX.out).mono ?_; rintro e w2 ⟨rfl, hn2⟩; have HN2 := Lib.hid (New.then hn1 hn2); have HO0 := Lib.hid (own_base (own_none w2) HN2.out.size); clear hn1 hn2)
          | (at_builtin; refine wpList_append_any _ rfl (.tmp 20) (.tmp 22) 22 rfl w.heap.size 34 i0 _ 8 56 Try.underlying22 hi hz0 hz1 hz2 rfl (by omega) _ _ _ rfl (HO3.out.alloc _) _ _ 1 1 _ rfl HR3.out (vi_one _) (by unfold maxLen; omega) (by omega) (by have := HN3.out.size; simp; omega) ?_; intro v4 w4 hown4 hg4 hat4; have HN4 := Lib.hid ((HN3.out.alloc HN3.out.size (.cells exC 34)).grown hg4 (by have := HN3.out.size; simp; omega) (fun j hj => (HO3.out.lt j hj).1)); obtain ⟨A4, c4, rfl, z1, z2, hr4⟩ := own_len hown4; have HR4 := Lib.hid (ri_more HML.out hr4); clear hown4 hg4 hat4 hr4 z1 z2)
          | (at_builtin; refine wpList_append_any _ rfl (.tmp 18) (.tmp 19) 22 rfl w.heap.size 34 i0 _ 8 56 Try.underlying22 hi hz0 hz1 hz2 rfl (by omega) _ _ _ rfl HO0.out w.heap.size A n c (vi l) rfl ((HAL.out.below HN2.out).alloc HN2.out.size _) (vi_one l) (by unfold maxLen; omega) (by omega) (by have := HN2.out.size; simp; omega) ?_; intro v3 w3 hown3 hg3 hat3; have HN3 := Lib.hid ((HN2.out.alloc HN2.out.size _).grown hg3 (by have := HN2.out.size; simp; omega) (fun j hj => (HO0.out.lt j hj).1)); have HO3 := Lib.hid hown3; have HR3 := Lib.hid (reads_ins w3 34 28 false 0 0 false 0 0 0); clear hown3 hg3 hat3)
          | (go_at_call 9; (with_reducible refine (check_m A4 n c4 (l ++ [iX]) 103 n _ HML.out (by omega) HR4.out HMORE.out).mono ?_); rintro e w5 ⟨rfl, hn5⟩; have HN5 := Lib.hid (New.then HN4.out hn5); clear hn5))
        go_ret
        exact ⟨rfl, HN5.out⟩
      · have t2 : ¬ at0 < 1 := by have := HWE.out.n0; have := HN.out; omega
        go_enter Try.func6, Try.ntmps6
        go_wp2_with (first
          | (go_at_call 7; refine (awake_any _).mono ?_; rintro e w1 ⟨rfl, hn1⟩)
          | (go_at_call 9; refine (check_x A n c l 0 xa _ HN.out hl (HA.out.new hn1) HX.out).mono ?_; rintro e w2 ⟨rfl, hn2⟩; have HN2 := Lib.hid (New.then hn1 hn2); have HO0 := Lib.hid (own_base (own_none w2) HN2.out.size); clear hn1 hn2)
          | (at_builtin; refine wpList_append_any _ rfl (.tmp 20) (.tmp 22) 22 rfl w.heap.size 34 i0 _ 8 56 Try.underlying22 hi hz0 hz1 hz2 rfl (by omega) _ _ _ rfl (HO3.out.alloc _) _ _ 1 1 _ rfl HR3.out (vi_one _) (by unfold maxLen; omega) (by omega) (by have := HN3.out.size; simp; omega) ?_; intro v4 w4 hown4 hg4 hat4; have HN4 := Lib.hid ((HN3.out.alloc HN3.out.size (.cells exC 34)).grown hg4 (by have := HN3.out.size; simp; omega) (fun j hj => (HO3.out.lt j hj).1)); obtain ⟨A4, c4, rfl, z1, z2, hr4⟩ := own_len hown4; have HR4 := Lib.hid (ri_more HML.out hr4); clear hown4 hg4 hat4 hr4 z1 z2)
          | (at_builtin; refine wpList_append_any _ rfl (.tmp 18) (.tmp 19) 22 rfl w.heap.size 34 i0 _ 8 56 Try.underlying22 hi hz0 hz1 hz2 rfl (by omega) _ _ _ rfl HO0.out w.heap.size A n c (vi l) rfl ((HAL.out.below HN2.out).alloc HN2.out.size _) (vi_one l) (by unfold maxLen; omega) (by omega) (by have := HN2.out.size; simp; omega) ?_; intro v3 w3 hown3 hg3 hat3; have HN3 := Lib.hid ((HN2.out.alloc HN2.out.size _).grown hg3 (by have := HN2.out.size; simp; omega) (fun j hj => (HO0.out.lt j hj).1)); have HO3 := Lib.hid hown3; have HR3 := Lib.hid (reads_ins w3 34 28 false 0 0 false 0 0 0); clear hown3 hg3 hat3)
          | (go_at_call 9; (with_reducible refine (check_m A4 n c4 (l ++ [iX]) 103 n _ HML.out (by omega) HR4.out HMORE.out).mono ?_); rintro e w5 ⟨rfl, hn5⟩; have HN5 := Lib.hid (New.then HN4.out hn5); clear hn5))
        go_ret
        exact ⟨rfl, HN5.out⟩
      · obtain ⟨k, hka⟩ : ∃ k : Nat, (a : Int) - 1 = (k : Int) := ⟨a - 1, by omega⟩
        have t2 : ¬ (a : Int) < 1 := by omega
        have t3 : ¬ (n : Int) ≤ (a : Int) := by omega
        have t4 : (a : Int) ≤ (c : Int) := by have := hc.1; omega
        have t5 : (k : Int) < (n : Int) := by omega
        obtain ⟨y, hy⟩ : ∃ y, chk (l.take a) = y := ⟨_, rfl⟩
        obtain ⟨ye, ya⟩ := y
        have hcut := chk_cut HWE.out (a := a) (by omega) (by rw [← HN.out]; exact ha2)
        rw [hy] at hcut
        have HY := Lib.hid hy
        have HTL : Hid (a = (l.take a).length) := Lib.hid (by rw [List.length_take, ← HN.out]; omega)
        have hkl : k < l.length := by rw [← HN.out]; omega
        obtain ⟨g, o, rfl, hg, hat⟩ := HA.out.at_ hkl
        rw [← ig_at hkl] at hat
        rw [show a - 1 = k by omega] at hcut
        obtain ⟨ii, hii⟩ : ∃ ii, ig l k = ii := ⟨_, rfl⟩
        rw [hii] at hat hcut
        obtain ⟨oo, nn, d, ss, u, f, mm, z⟩ := ii
        have HAT := Lib.hid hat
        clear hy hii hat hkl
        simp only at hcut
        rcases hcut with ⟨rfl, h28 | h16⟩ | ⟨rfl | rfl | rfl, hya⟩
        · have t6 : (oo == 28) = true := by simpa using h28
          clear h28
          go_enter Try.func6, Try.ntmps6
          go_wp2_with (first
            | (go_at_call 7; refine (awake_any _).mono ?_; rintro e w1 ⟨rfl, hn1⟩)
            | (go_at_call 9; refine (check_x _ n c l 0 xa _ HN.out hl (HA.out.new hn1) HX.out).mono ?_; rintro e w2 ⟨rfl, hn2⟩; have HN2 := Lib.hid (New.then hn1 hn2); have HO0 := Lib.hid (own_base (own_none w2) HN2.out.size); clear hn1 hn2)
            | (at_builtin; refine wpList_append_any _ rfl (.tmp 20) (.tmp 22) 22 rfl w.heap.size 34 i0 _ 8 56 Try.underlying22 hi hz0 hz1 hz2 rfl (by omega) _ _ _ rfl (HO3.out.alloc _) _ _ 1 1 _ rfl HR3.out (vi_one _) (by unfold maxLen; omega) (by omega) (by have := HN3.out.size; simp; omega) ?_; intro v4 w4 hown4 hg4 hat4; have HN4 := Lib.hid ((HN3.out.alloc HN3.out.size (.cells exC 34)).grown hg4 (by have := HN3.out.size; simp; omega) (fun j hj => (HO3.out.lt j hj).1)); obtain ⟨A4, c4, rfl, z1, z2, hr4⟩ := own_len hown4; have HR4 := Lib.hid (ri_more HML.out hr4); clear hown4 hg4 hat4 hr4 z1 z2)
            | (at_builtin; refine wpList_append_any _ rfl (.tmp 18) (.tmp 19) 22 rfl w.heap.size 34 i0 _ 8 56 Try.underlying22 hi hz0 hz1 hz2 rfl (by omega) _ _ _ rfl HO0.out w.heap.size _ n c (vi l) rfl ((HAL.out.below HN2.out).alloc HN2.out.size _) (vi_one l) (by unfold maxLen; omega) (by omega) (by have := HN2.out.size; simp; omega) ?_; intro v3 w3 hown3 hg3 hat3; have HN3 := Lib.hid ((HN2.out.alloc HN2.out.size _).grown hg3 (by have := HN2.out.size; simp; omega) (fun j hj => (HO0.out.lt j hj).1)); have HO3 := Lib.hid hown3; have HR3 := Lib.hid (reads_ins w3 34 28 false 0 0 false 0 0 0); clear hown3 hg3 hat3)
            | (go_at_call 9; (with_reducible refine (check_m A4 n c4 (l ++ [iX]) 103 n _ HML.out (by omega) HR4.out HMORE.out).mono ?_); rintro e w5 ⟨rfl, hn5⟩; have HN5 := Lib.hid (New.then HN4.out hn5); clear hn5)
            | (go_at_call 9; (with_reducible refine (check_x (some ⟨g, o, none⟩) a c (l.take a) 0 ya _ HTL.out (by omega) (RI.take (HA.out.new HN5.out) (by have := HN.out; omega)) HY.out).mono ?_); rintro e w6 ⟨rfl, hn6⟩; have HN6 := Lib.hid (New.then HN5.out hn6); obtain ⟨q0, q1, q2, q3, q4, q5, q6, q7⟩ := HAT.out.new hg (HN6.out.alloc HN6.out.size (.cells #[.int .i64 0, .int .i64 (ya : Int)] 27)); clear hn6))
          go_ret
          exact ⟨rfl, HN6.out.alloc HN6.out.size _⟩
        · have t6 : (oo == 28) = false := by simp; omega
          have t7 : (oo == 16) = true := by simpa using h16
          clear h16
          go_enter Try.func6, Try.ntmps6
          go_wp2_with (first
            | (go_at_call 7; refine (awake_any _).mono ?_; rintro e w1 ⟨rfl, hn1⟩)
            | (go_at_call 9; refine (check_x _ n c l 0 xa _ HN.out hl (HA.out.new hn1) HX.out).mono ?_; rintro e w2 ⟨rfl, hn2⟩; have HN2 := Lib.hid (New.then hn1 hn2); have HO0 := Lib.hid (own_base (own_none w2) HN2.out.size); clear hn1 hn2)
            | (at_builtin; refine wpList_append_any _ rfl (.tmp 20) (.tmp 22) 22 rfl w.heap.size 34 i0 _ 8 56 Try.underlying22 hi hz0 hz1 hz2 rfl (by omega) _ _ _ rfl (HO3.out.alloc _) _ _ 1 1 _ rfl HR3.out (vi_one _) (by unfold maxLen; omega) (by omega) (by have := HN3.out.size; simp; omega) ?_; intro v4 w4 hown4 hg4 hat4; have HN4 := Lib.hid ((HN3.out.alloc HN3.out.size (.cells exC 34)).grown hg4 (by have := HN3.out.size; simp; omega) (fun j hj => (HO3.out.lt j hj).1)); obtain ⟨A4, c4, rfl, z1, z2, hr4⟩ := own_len hown4; have HR4 := Lib.hid (ri_more HML.out hr4); clear hown4 hg4 hat4 hr4 z1 z2)
            | (at_builtin; refine wpList_append_any _ rfl (.tmp 18) (.tmp 19) 22 rfl w.heap.size 34 i0 _ 8 56 Try.underlying22 hi hz0 hz1 hz2 rfl (by omega) _ _ _ rfl HO0.out w.heap.size _ n c (vi l) rfl ((HAL.out.below HN2.out).alloc HN2.out.size _) (vi_one l) (by unfold maxLen; omega) (by omega) (by have := HN2.out.size; simp; omega) ?_; intro v3 w3 hown3 hg3 hat3; have HN3 := Lib.hid ((HN2.out.alloc HN2.out.size _).grown hg3 (by have := HN2.out.size; simp; omega) (fun j hj => (HO0.out.lt j hj).1)); have HO3 := Lib.hid hown3; have HR3 := Lib.hid (reads_ins w3 34 28 false 0 0 false 0 0 0); clear hown3 hg3 hat3)
            | (go_at_call 9; (with_reducible refine (check_m A4 n c4 (l ++ [iX]) 103 n _ HML.out (by omega) HR4.out HMORE.out).mono ?_); rintro e w5 ⟨rfl, hn5⟩; have HN5 := Lib.hid (New.then HN4.out hn5); clear hn5)
            | (go_at_call 9; (with_reducible refine (check_x (some ⟨g, o, none⟩) a c (l.take a) 0 ya _ HTL.out (by omega) (RI.take (HA.out.new HN5.out) (by have := HN.out; omega)) HY.out).mono ?_); rintro e w6 ⟨rfl, hn6⟩; have HN6 := Lib.hid (New.then HN5.out hn6); obtain ⟨q0, q1, q2, q3, q4, q5, q6, q7⟩ := HAT.out.new hg (HN6.out.alloc HN6.out.size (.cells #[.int .i64 0, .int .i64 (ya : Int)] 27)); clear hn6))
          go_ret
          exact ⟨rfl, HN6.out.alloc HN6.out.size _⟩
        · have t6 : (ya : Int) < (a : Int) := by omega
          go_enter Try.func6, Try.ntmps6
          go_wp2_with (first
            | (go_at_call 7; refine (awake_any _).mono ?_; rintro e w1 ⟨rfl, hn1⟩)
            | (go_at_call 9; refine (check_x _ n c l 0 xa _ HN.out hl (HA.out.new hn1) HX.out).mono ?_; rintro e w2 ⟨rfl, hn2⟩; have HN2 := Lib.hid (New.then hn1 hn2); have HO0 := Lib.hid (own_base (own_none w2) HN2.out.size); clear hn1 hn2)
            | (at_builtin; refine wpList_append_any _ rfl (.tmp 20) (.tmp 22) 22 rfl w.heap.size 34 i0 _ 8 56 Try.underlying22 hi hz0 hz1 hz2 rfl (by omega) _ _ _ rfl (HO3.out.alloc _) _ _ 1 1 _ rfl HR3.out (vi_one _) (by unfold maxLen; omega) (by omega) (by have := HN3.out.size; simp; omega) ?_; intro v4 w4 hown4 hg4 hat4; have HN4 := Lib.hid ((HN3.out.alloc HN3.out.size (.cells exC 34)).grown hg4 (by have := HN3.out.size; simp; omega) (fun j hj => (HO3.out.lt j hj).1)); obtain ⟨A4, c4, rfl, z1, z2, hr4⟩ := own_len hown4; have HR4 := Lib.hid (ri_more HML.out hr4); clear hown4 hg4 hat4 hr4 z1 z2)
            | (at_builtin; refine wpList_append_any _ rfl (.tmp 18) (.tmp 19) 22 rfl w.heap.size 34 i0 _ 8 56 Try.underlying22 hi hz0 hz1 hz2 rfl (by omega) _ _ _ rfl HO0.out w.heap.size _ n c (vi l) rfl ((HAL.out.below HN2.out).alloc HN2.out.size _) (vi_one l) (by unfold maxLen; omega) (by omega) (by have := HN2.out.size; simp; omega) ?_; intro v3 w3 hown3 hg3 hat3; have HN3 := Lib.hid ((HN2.out.alloc HN2.out.size _).grown hg3 (by have := HN2.out.size; simp; omega) (fun j hj => (HO0.out.lt j hj).1)); have HO3 := Lib.hid hown3; have HR3 := Lib.hid (reads_ins w3 34 28 false 0 0 false 0 0 0); clear hown3 hg3 hat3)
            | (go_at_call 9; (with_reducible refine (check_m A4 n c4 (l ++ [iX]) 103 n _ HML.out (by omega) HR4.out HMORE.out).mono ?_); rintro e w5 ⟨rfl, hn5⟩; have HN5 := Lib.hid (New.then HN4.out hn5); clear hn5)
            | (go_at_call 9; (with_reducible refine (check_x (some ⟨g, o, none⟩) a c (l.take a) 101 ya _ HTL.out (by omega) (RI.take (HA.out.new HN5.out) (by have := HN.out; omega)) HY.out).mono ?_); rintro e w6 ⟨rfl, hn6⟩; have HN6 := Lib.hid (New.then HN5.out hn6); obtain ⟨q0, q1, q2, q3, q4, q5, q6, q7⟩ := HAT.out.new hg (HN6.out.alloc HN6.out.size (.cells #[.int .i64 101, .int .i64 (ya : Int)] 27)); clear hn6))
          go_ret
          exact ⟨rfl, HN6.out.alloc HN6.out.size _⟩
        · have t6 : (ya : Int) < (a : Int) := by omega
          go_enter Try.func6, Try.ntmps6
          go_wp2_with (first
            | (go_at_call 7; refine (awake_any _).mono ?_; rintro e w1 ⟨rfl, hn1⟩)
            | (go_at_call 9; refine (check_x _ n c l 0 xa _ HN.out hl (HA.out.new hn1) HX.out).mono ?_; rintro e w2 ⟨rfl, hn2⟩; have HN2 := Lib.hid (New.then hn1 hn2); have HO0 := Lib.hid (own_base (own_none w2) HN2.out.size); clear hn1 hn2)
            | (at_builtin; refine wpList_append_any _ rfl (.tmp 20) (.tmp 22) 22 rfl w.heap.size 34 i0 _ 8 56 Try.underlying22 hi hz0 hz1 hz2 rfl (by omega) _ _ _ rfl (HO3.out.alloc _) _ _ 1 1 _ rfl HR3.out (vi_one _) (by unfold maxLen; omega) (by omega) (by have := HN3.out.size; simp; omega) ?_; intro v4 w4 hown4 hg4 hat4; have HN4 := Lib.hid ((HN3.out.alloc HN3.out.size (.cells exC 34)).grown hg4 (by have := HN3.out.size; simp; omega) (fun j hj => (HO3.out.lt j hj).1)); obtain ⟨A4, c4, rfl, z1, z2, hr4⟩ := own_len hown4; have HR4 := Lib.hid (ri_more HML.out hr4); clear hown4 hg4 hat4 hr4 z1 z2)
            | (at_builtin; refine wpList_append_any _ rfl (.tmp 18) (.tmp 19) 22 rfl w.heap.size 34 i0 _ 8 56 Try.underlying22 hi hz0 hz1 hz2 rfl (by omega) _ _ _ rfl HO0.out w.heap.size _ n c (vi l) rfl ((HAL.out.below HN2.out).alloc HN2.out.size _) (vi_one l) (by unfold maxLen; omega) (by omega) (by have := HN2.out.size; simp; omega) ?_; intro v3 w3 hown3 hg3 hat3; have HN3 := Lib.hid ((HN2.out.alloc HN2.out.size _).grown hg3 (by have := HN2.out.size; simp; omega) (fun j hj => (HO0.out.lt j hj).1)); have HO3 := Lib.hid hown3; have HR3 := Lib.hid (reads_ins w3 34 28 false 0 0 false 0 0 0); clear hown3 hg3 hat3)
            | (go_at_call 9; (with_reducible refine (check_m A4 n c4 (l ++ [iX]) 103 n _ HML.out (by omega) HR4.out HMORE.out).mono ?_); rintro e w5 ⟨rfl, hn5⟩; have HN5 := Lib.hid (New.then HN4.out hn5); clear hn5)
            | (go_at_call 9; (with_reducible refine (check_x (some ⟨g, o, none⟩) a c (l.take a) 102 ya _ HTL.out (by omega) (RI.take (HA.out.new HN5.out) (by have := HN.out; omega)) HY.out).mono ?_); rintro e w6 ⟨rfl, hn6⟩; have HN6 := Lib.hid (New.then HN5.out hn6); obtain ⟨q0, q1, q2, q3, q4, q5, q6, q7⟩ := HAT.out.new hg (HN6.out.alloc HN6.out.size (.cells #[.int .i64 102, .int .i64 (ya : Int)] 27)); clear hn6))
          go_ret
          exact ⟨rfl, HN6.out.alloc HN6.out.size _⟩
        · have t6 : (ya : Int) < (a : Int) := by omega
          go_enter Try.func6, Try.ntmps6
          go_wp2_with (first
            | (go_at_call 7; refine (awake_any _).mono ?_; rintro e w1 ⟨rfl, hn1⟩)
            | (go_at_call 9; refine (check_x _ n c l 0 xa _ HN.out hl (HA.out.new hn1) HX.out).mono ?_; rintro e w2 ⟨rfl, hn2⟩; have HN2 := Lib.hid (New.then hn1 hn2); have HO0 := Lib.hid (own_base (own_none w2) HN2.out.size); clear hn1 hn2)
            | (at_builtin; refine wpList_append_any _ rfl (.tmp 20) (.tmp 22) 22 rfl w.heap.size 34 i0 _ 8 56 Try.underlying22 hi hz0 hz1 hz2 rfl (by omega) _ _ _ rfl (HO3.out.alloc _) _ _ 1 1 _ rfl HR3.out (vi_one _) (by unfold maxLen; omega) (by omega) (by have := HN3.out.size; simp; omega) ?_; intro v4 w4 hown4 hg4 hat4; have HN4 := Lib.hid ((HN3.out.alloc HN3.out.size (.cells exC 34)).grown hg4 (by have := HN3.out.size; simp; omega) (fun j hj => (HO3.out.lt j hj).1)); obtain ⟨A4, c4, rfl, z1, z2, hr4⟩ := own_len hown4; have HR4 := Lib.hid (ri_more HML.out hr4); clear hown4 hg4 hat4 hr4 z1 z2)
            | (at_builtin; refine wpList_append_any _ rfl (.tmp 18) (.tmp 19) 22 rfl w.heap.size 34 i0 _ 8 56 Try.underlying22 hi hz0 hz1 hz2 rfl (by omega) _ _ _ rfl HO0.out w.heap.size _ n c (vi l) rfl ((HAL.out.below HN2.out).alloc HN2.out.size _) (vi_one l) (by unfold maxLen; omega) (by omega) (by have := HN2.out.size; simp; omega) ?_; intro v3 w3 hown3 hg3 hat3; have HN3 := Lib.hid ((HN2.out.alloc HN2.out.size _).grown hg3 (by have := HN2.out.size; simp; omega) (fun j hj => (HO0.out.lt j hj).1)); have HO3 := Lib.hid hown3; have HR3 := Lib.hid (reads_ins w3 34 28 false 0 0 false 0 0 0); clear hown3 hg3 hat3)
            | (go_at_call 9; (with_reducible refine (check_m A4 n c4 (l ++ [iX]) 103 n _ HML.out (by omega) HR4.out HMORE.out).mono ?_); rintro e w5 ⟨rfl, hn5⟩; have HN5 := Lib.hid (New.then HN4.out hn5); clear hn5)
            | (go_at_call 9; (with_reducible refine (check_x (some ⟨g, o, none⟩) a c (l.take a) 103 ya _ HTL.out (by omega) (RI.take (HA.out.new HN5.out) (by have := HN.out; omega)) HY.out).mono ?_); rintro e w6 ⟨rfl, hn6⟩; have HN6 := Lib.hid (New.then HN5.out hn6); obtain ⟨q0, q1, q2, q3, q4, q5, q6, q7⟩ := HAT.out.new hg (HN6.out.alloc HN6.out.size (.cells #[.int .i64 103, .int .i64 (ya : Int)] 27)); clear hn6))
          go_ret
          exact ⟨rfl, HN6.out.alloc HN6.out.size _⟩
    · have t2 : (xe == 0) = false := by simpa using h0
      have t3 : (xe != 0) = true := by simpa using h0
      clear h0
      go_enter Try.func6, Try.ntmps6
      go_wp2_with (first
        | (go_at_call 7; refine (awake_any _).mono ?_; rintro e w1 ⟨rfl, hn1⟩)
        | (go_at_call 9; refine (check_x A n c l xe xa _ HN.out hl (HA.out.new hn1) HX.out).mono ?_; rintro e w2 ⟨rfl, hn2⟩))
      go_ret
      exact ⟨rfl, hn1.then hn2⟩
end Go.Proofs.Ytlchimbaclenaaa.sh
