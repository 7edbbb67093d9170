/-
  Text: TextBack's walk.
-/
import Derived.Test.YtcebfihjcglnoaaGreatDoorTB
import Derived.Test.YtcebfihjcglnoaaGreatDoorTZI
import Derived.IntWalk
import Derived.Deep.QuietTactic
import Derived.BigQuiet
namespace Go.Proofs.YtcebfihjcglnoaaGreatDoor.txt
open Go.RowKit Go.Proofs.YtcebfihjcglnoaaGreatDoor.mem Go.Proofs.YtcebfihjcglnoaaGreatDoor.kit Go.Proofs.YtcebfihjcglnoaaGreatDoor.ins
set_option linter.unusedVariables false
set_option linter.unusedSimpArgs false

theorem cnt_any (l : Bs) (w : World) (N : Nat) (hN : Lib.countB ⟨l.toArray⟩ ⟨#[10]⟩ = N) (hl : l.length ≤ 1000000000) (hm : MaxT w) :
    Calls Tryz.prog 23 #[.string ⟨l.toArray⟩, .string ⟨#[10]⟩] w fun e w' => e = .returned (.int .i64 (N : Int)) ∧ w' = w := by
  obtain ⟨m, hm⟩ := hm
  subst hN
  exact Tryz.strings_Count_any ⟨l.toArray⟩ ⟨#[10]⟩ m w (by show l.toArray.size < _; simp; omega) hm (by decide)
theorem parse_l (T : TypeId) (q : Addr) (b : Bs) (f a : Int) (is : List In) (n : Nat) (w : World) (hn : n = is.length) (h : TW w T q) (hp : parseM b = ((f, a), is)) :
    Calls Tryz.prog 9 #[.string ⟨b.toArray⟩] w fun e w' => ∃ A c, e = .returned (.tuple #[.slice A n c, .agg #[.int .i64 f, .int .i64 a]]) ∧ RI w' A is ∧ New w w' := by
  have h1 := parse_any T q b w h.m h.e h.n
  rw [hp] at h1
  refine h1.mono ?_
  rintro e w' ⟨v, rfl, ho, hn2⟩
  obtain ⟨A, c, e, h2, h3, hr⟩ := own_len ho
  subst e
  subst hn
  exact ⟨A, c, rfl, hr, hn2⟩
theorem takeOk {l : List In} {k : Nat} (hk : k < l.length) : (l.take (k + 1)).all ok = ((l.take k).all ok && ok l[k]) := by
  rw [List.take_succ_eq_append_getElem hk, List.all_append]
  simp
/-- What Parse answers of a text. -/
theorem parse_two (s : Bs) (f a : Int) (is : List In) (N : Nat) (hN : Lib.countB ⟨s.toArray⟩ ⟨#[10]⟩ = N) (hp : parseM s = ((f, a), is)) :
    (f = 0 ∧ a = 0 ∧ is.all ok = true ∧ is.length ≤ 4096) ∨ (f ≠ 0 ∧ is = [] ∧ 0 ≤ a ∧ a ≤ 1 + (N : Int)) := by
  obtain ⟨h1, h2⟩ := parse_inv s
  rw [hp] at h1 h2
  by_cases h0 : f = 0
  · obtain ⟨e, h3, h4⟩ := h1 h0
    injection e with e1 e2
    exact .inl ⟨h0, e2, h3, h4⟩
  · obtain ⟨h3, h4, h5⟩ := h2 h0
    rw [lines_len, hN] at h5
    exact .inr ⟨h0, h3, h4, by simp only at h5; omega⟩
theorem show_two (l : List In) (e0 : Int) (x : Bs) (h : showM l = (e0, x)) (R : Bool) (hR : (decide ((l.length : Int) ≤ 4096) && l.all ok) = R) :
    (R = true ∧ e0 = 0 ∧ x = linesOf l ∧ l.all ok = true ∧ l.length ≤ 4096) ∨ (R = false ∧ e0 ≠ 0 ∧ x = []) := by
  subst hR
  unfold showM at h
  split at h
  · injection h with h1 h2
    exact .inr ⟨by rw [decide_eq_false (by omega)]; rfl, by omega, h2.symm⟩
  · split at h
    · rename_i h4
      injection h with h1 h2
      exact .inl ⟨by rw [decide_eq_true (by omega), h4]; rfl, h1.symm, h2.symm, h4, by omega⟩
    · rename_i h4
      injection h with h1 h2
      exact .inr ⟨by rw [Bool.and_eq_false_iff]; exact .inr (by simpa using h4), by omega, h2.symm⟩
theorem show_ok {l : List In} (h : l.all ok = true) (hl : l.length ≤ 4096) : showM l = (0, linesOf l) := by
  unfold showM
  rw [if_neg (by omega), if_pos h]
theorem cells2 {w : World} {x y : Value} {o : Obj} (h : o = .cells #[x, y] 26) : (w.alloc o).cell? ⟨w.heap.size, 0, none⟩ = some x ∧ (w.alloc o).cell? ⟨w.heap.size, 1, none⟩ = some y := by
  subst h
  exact two_cells (Blk.new w 26 #[x, y])

set_option maxRecDepth 100000 in
set_option maxHeartbeats 4000000 in
theorem TextBack_any (T : TypeId) (q : Addr) (A : Option Addr) (n c : Nat) (l : List In) (s : Bs) (w : World) (hn : n = l.length) (hA : RI w A l) (hT : TW w T q) (hsl : s.length ≤ maxLen) :
    Calls Tryz.prog 6 #[.slice A n c, .string ⟨s.toArray⟩] w fun e w' => e = .returned (.bool true) ∧ New w w' := by
  have HT := Lib.hid hT
  have HA := Lib.hid hA
  have HN := Lib.hid hn
  clear hn hA hT
  by_cases h3 : 5000 < n
  · have t1 : (5000 : Int) < (n : Int) := by omega
    go_enter Tryz.func6, Tryz.ntmps6
    go_wp2_with (go_at_call 8; (with_reducible refine (awake_any T q _ HT.out).mono ?_); rintro e w1 ⟨rfl, hn1⟩)
    go_ret
    exact ⟨rfl, hn1⟩
  have t1 : ¬ (5000 : Int) < (n : Int) := by omega
  by_cases h4 : 20000 < s.length
  · have t2 : (20000 : Int) < (s.length : Int) := by omega
    go_enter Tryz.func6, Tryz.ntmps6
    go_wp2_with (go_at_call 8; (with_reducible refine (awake_any T q _ HT.out).mono ?_); rintro e w1 ⟨rfl, hn1⟩)
    go_ret
    exact ⟨rfl, hn1⟩
  have t2 : ¬ (20000 : Int) < (s.length : Int) := by omega
  have hm : n ≤ maxLen := by unfold maxLen; omega
  have hl40 : n ≤ 1099511627776 := by omega
  obtain ⟨b0, hb0⟩ : ∃ b0, decide ((n : Int) ≤ 4096) = b0 := ⟨_, rfl⟩
  have HB0 := Lib.hid hb0
  go_enter Tryz.func6, Tryz.ntmps6
  go_wp2_with (go_at_call 8; (with_reducible refine (awake_any T q _ HT.out).mono ?_); rintro e w1 ⟨rfl, hn1⟩; have HN1 := Lib.hid hn1; clear hn1)
  go_loopw [5, 6] (fun r i wr => ∃ k : Nat, k ≤ n ∧ i = .int .i64 k ∧ r = .bool (b0 && (l.take k).all ok) ∧ New w wr) (fun _ i _ => n - (intOf i).toNat)
  case atStart => exact ⟨0, Nat.zero_le _, rfl, by first | simp [hb0] | simp [← hb0], HN1.out⟩
  case round =>
    clear HN1 hb0
    obtain ⟨k, hk, rfl, rfl, hnw⟩ := hrel
    have HNW := Lib.hid hnw
    clear hnw
    by_cases hlt : k < n
    · have hkl : k < l.length := by rw [← HN.out]; exact hlt
      have t3 : (k : Int) < (n : Int) := by omega
      obtain ⟨B, hB⟩ : ∃ B, (b0 && (l.take k).all ok) = B := ⟨_, rfl⟩
      rw [hB]
      obtain ⟨g, o, rfl, hg, hat⟩ := RI.at_ HA.out hkl
      obtain ⟨y, hy⟩ : ∃ y, l[k] = y := ⟨_, rfl⟩
      rw [hy] at hat
      have hC : ∀ C, ok y = C → (b0 && (l.take (k + 1)).all ok) = (B && C) := fun C hC => by rw [takeOk hkl, hy, ← Bool.and_assoc, hB, hC]
      obtain ⟨C, hCC⟩ : ∃ C, ok y = C := ⟨_, rfl⟩
      have HC := Lib.hid (hC C hCC)
      obtain ⟨b0', b1, b2, b3, b4, b5, b6, b7⟩ := hat.new hg HNW.out
      obtain ⟨io, inr, id, isr, iu, iof, iim, isz⟩ := y
      simp only at b0' b1 b2 b3 b4 b5 b6 b7
      have HR := Lib.hid (right_x' io inr id isr iu iof iim isz C hCC)
      clear hat hy hC hCC hB
      rcases B with _ | _
      · go_wp2
        go_roundw
        case rel => exact ⟨k + 1, by omega, by go_num, by rw [HC.out]; rfl, HNW.out⟩
        case measure => simp [intOf]; omega
      · go_wp2_with (go_at_call 21; refine (HR.out _).mono ?_; rintro e w2 ⟨rfl, hn2⟩; have HN2 := Lib.hid (New.then HNW.out hn2); clear hn2)
        go_roundw
        case rel => exact ⟨k + 1, by omega, by go_num, by rw [HC.out]; rfl, HN2.out⟩
        case measure => simp [intOf]; omega
    · obtain rfl : n = k := by omega
      have t3 : ¬ (n : Int) < (n : Int) := by omega
      rw [List.take_of_length_le (by rw [← HN.out]; exact Nat.le_refl _)]
      obtain ⟨R, hR⟩ : ∃ R, (b0 && l.all ok) = R := ⟨_, rfl⟩
      rw [hR]
      obtain ⟨v, hs⟩ : ∃ v, showM l = v := ⟨_, rfl⟩
      obtain ⟨e0, x⟩ := v
      have hRR : (decide ((l.length : Int) ≤ 4096) && l.all ok) = R := by rw [← hR, ← HB0.out, HN.out]
      obtain ⟨v, hp⟩ : ∃ v, parseM s = v := ⟨_, rfl⟩
      obtain ⟨⟨f, a⟩, is⟩ := v
      obtain ⟨N, hN⟩ : ∃ N, Lib.countB ⟨s.toArray⟩ ⟨#[10]⟩ = N := ⟨_, rfl⟩
      have hNs : N ≤ 20000 := by
        have h1 := Lib.countB_le ⟨#[10]⟩ (by decide) s.length ⟨s.toArray⟩ (by show s.toArray.size ≤ _; simp)
        have h2 : (⟨s.toArray⟩ : ByteArray).size = s.length := by show s.toArray.size = _; simp
        omega
      obtain ⟨m, hmm⟩ : ∃ m, m = is.length := ⟨_, rfl⟩
      have HPS : Hid (∀ W, TW W T q → Calls Tryz.prog 9 #[.string ⟨s.toArray⟩] W fun e w' => ∃ A c, e = .returned (.tuple #[.slice A m c, .agg #[.int .i64 f, .int .i64 a]]) ∧ RI w' A is ∧ New W w') := Lib.hid (fun W h => parse_l T q s f a is m W hmm h hp)
      have HCS : Hid (∀ W, TW W T q → Calls Tryz.prog 23 #[.string ⟨s.toArray⟩, .string ⟨#[10]⟩] W fun e w' => e = .returned (.int .i64 (N : Int)) ∧ w' = W) := Lib.hid (fun W h => cnt_any s W N hN (by omega) h.m)
      have HPT := Lib.hid (parse_two s f a is N hN hp)
      have HSL : Hid (∀ W, RI W A l → TW W T q → Calls Tryz.prog 13 #[.slice A n c] W fun e w' => e = .returned (.tuple #[.string ⟨x.toArray⟩, .int .i64 e0]) ∧ New W w') := Lib.hid (fun W h1 h2 => by have h3 := show_any A n c l W HN.out hm h1 h2.n h2.p; rw [hs] at h3; exact h3)
      have HST := Lib.hid (show_two l e0 x hs R hRR)
      clear hs hR hRR hp hN HB0
      rcases HST.out with ⟨r1, r2, r3, hall, hl4⟩ | ⟨r1, r2, r3⟩
      · clear HST
        subst r1
        subst r2
        have HP1 : Hid (∀ W, TW W T q → Calls Tryz.prog 9 #[.string ⟨x.toArray⟩] W fun e w' => ∃ A c, e = .returned (.tuple #[.slice A n c, .agg #[.int .i64 0, .int .i64 0]]) ∧ RI w' A l ∧ New W w') := Lib.hid (fun W h => parse_l T q x 0 0 l n W HN.out h (by rw [r3]; exact parse_shown hall hl4))
        have HC1 : Hid (∀ W, TW W T q → Calls Tryz.prog 23 #[.string ⟨x.toArray⟩, .string ⟨#[10]⟩] W fun e w' => e = .returned (.int .i64 (n : Int)) ∧ w' = W) := Lib.hid (fun W h => cnt_any x W n (by rw [r3, HN.out]; exact count_shown hall) (by rw [r3]; have := lines_short l hall; omega) h.m)
        clear r3 hall
        rcases HPT.out with ⟨f1, f2, hok, h46⟩ | ⟨f1, f2, f3, f4⟩
        · clear HPT HCS
          subst f1
          subst f2
          have hm5 : m ≤ maxLen := by unfold maxLen; omega
          have hm6 : m ≤ 1099511627776 := by omega
          obtain ⟨u, hu⟩ : ∃ u, linesOf is = u := ⟨_, rfl⟩
          have HS5 : Hid (∀ W A c, RI W A is → TW W T q → Calls Tryz.prog 13 #[.slice A m c] W fun e w' => e = .returned (.tuple #[.string ⟨u.toArray⟩, .int .i64 0]) ∧ New W w') := Lib.hid (fun W A c h1 h2 => by have h3 := show_any A m c is W hmm hm5 h1 h2.n h2.p; rw [show_ok hok h46, hu] at h3; exact h3)
          have HP5 : Hid (∀ W, TW W T q → Calls Tryz.prog 9 #[.string ⟨u.toArray⟩] W fun e w' => ∃ A c, e = .returned (.tuple #[.slice A m c, .agg #[.int .i64 0, .int .i64 0]]) ∧ RI w' A is ∧ New W w') := Lib.hid (fun W h => parse_l T q u 0 0 is m W hmm h (by rw [← hu]; exact parse_shown hok h46))
          have HM := Lib.hid hmm
          clear hu hok hmm
          go_wp2_with (first
            | (go_at_call 13; (with_reducible refine (HSL.out _ (Reads.new HA.out HNW.out) (HT.out.new HNW.out)).mono ?_); rintro e w2 ⟨rfl, hn2⟩; have HN2 := Lib.hid (New.then HNW.out hn2); clear hn2)
            | (go_at_call 9; (with_reducible refine (HP1.out _ (HT.out.new HN2.out)).mono ?_); rintro e w3 ⟨B3, c3, rfl, hr3, hn3⟩; have HR3 := Lib.hid (Reads.new hr3 (new1 w3 (.cells #[.int .i64 0, .int .i64 0] 26))); have HN3 := Lib.hid (New.then (New.then HN2.out hn3) (new1 w3 (.cells #[.int .i64 0, .int .i64 0] 26))); obtain ⟨p0, p1⟩ := cells2 (w := w3) (x := .int .i64 0) (y := .int .i64 0) rfl; clear hr3 hn3)
            | (go_at_call 22; (with_reducible refine (sameIns_any A B3 n c c3 l _ HN.out hl40 (Reads.new HA.out HN3.out) HR3.out).mono ?_); rintro e w4 ⟨rfl, hn4⟩; have HN4 := Lib.hid (New.then HN3.out hn4); clear hn4 p0 p1)
            | (go_at_call 23; (with_reducible refine (HC1.out _ (HT.out.new HN4.out)).mono ?_); rintro e w4' ⟨rfl, rfl⟩)
            | (go_at_call 9; (with_reducible refine (HPS.out _ (HT.out.new HN4.out)).mono ?_); rintro e w5 ⟨B5, c5, rfl, hr5, hn5⟩; have HR5 := Lib.hid (Reads.new hr5 (new1 w5 (.cells #[.int .i64 0, .int .i64 0] 26))); have HN5 := Lib.hid (New.then (New.then HN4.out hn5) (new1 w5 (.cells #[.int .i64 0, .int .i64 0] 26))); obtain ⟨p0, p1⟩ := cells2 (w := w5) (x := .int .i64 0) (y := .int .i64 0) rfl; clear hr5 hn5)
            | (go_at_call 13; (with_reducible refine (HS5.out _ B5 c5 HR5.out (HT.out.new HN5.out)).mono ?_); rintro e w6 ⟨rfl, hn6⟩; have HN6 := Lib.hid (New.then HN5.out hn6); have HR6 := Lib.hid (Reads.new HR5.out hn6); clear hn6 p0 p1)
            | (go_at_call 9; (with_reducible refine (HP5.out _ (HT.out.new HN6.out)).mono ?_); rintro e w7 ⟨B7, c7, rfl, hr7, hn7⟩; have nw7 := new1 w7 (.cells #[.int .i64 0, .int .i64 0] 26); have HR7 := Lib.hid (Reads.new hr7 nw7); have HR8 := Lib.hid (Reads.new HR6.out (New.then hn7 nw7)); have HN7 := Lib.hid (New.then HN6.out (New.then hn7 nw7)); obtain ⟨p0, p1⟩ := cells2 (w := w7) (x := .int .i64 0) (y := .int .i64 0) rfl; clear hr7 hn7 nw7)
            | (go_at_call 22; (with_reducible refine (sameIns_any B5 B7 m c5 c7 is _ HM.out hm6 HR8.out HR7.out).mono ?_); rintro e w8 ⟨rfl, hn8⟩; have HN8 := Lib.hid (New.then HN7.out hn8); clear hn8))
          go_ret
          exact ⟨rfl, HN8.out⟩
        · clear HPT
          subst f2
          obtain rfl : m = 0 := hmm
          have u1 : ¬ f = 0 := f1
          have u2 : (f == 0) = false := by simp [f1]
          have u3 : decide (f = 0) = false := by simp [f1]
          go_wp2_with (first
            | (go_at_call 13; (with_reducible refine (HSL.out _ (Reads.new HA.out HNW.out) (HT.out.new HNW.out)).mono ?_); rintro e w2 ⟨rfl, hn2⟩; have HN2 := Lib.hid (New.then HNW.out hn2); clear hn2)
            | (go_at_call 9; (with_reducible refine (HP1.out _ (HT.out.new HN2.out)).mono ?_); rintro e w3 ⟨B3, c3, rfl, hr3, hn3⟩; have HR3 := Lib.hid (Reads.new hr3 (new1 w3 (.cells #[.int .i64 0, .int .i64 0] 26))); have HN3 := Lib.hid (New.then (New.then HN2.out hn3) (new1 w3 (.cells #[.int .i64 0, .int .i64 0] 26))); obtain ⟨p0, p1⟩ := cells2 (w := w3) (x := .int .i64 0) (y := .int .i64 0) rfl; clear hr3 hn3)
            | (go_at_call 22; (with_reducible refine (sameIns_any A B3 n c c3 l _ HN.out hl40 (Reads.new HA.out HN3.out) HR3.out).mono ?_); rintro e w4 ⟨rfl, hn4⟩; have HN4 := Lib.hid (New.then HN3.out hn4); clear hn4 p0 p1)
            | (go_at_call 23; (with_reducible refine (HC1.out _ (HT.out.new HN4.out)).mono ?_); rintro e w4' ⟨rfl, rfl⟩)
            | (go_at_call 9; (with_reducible refine (HPS.out _ (HT.out.new HN4.out)).mono ?_); rintro e w5 ⟨B5, c5, rfl, hr5, hn5⟩; have HR5 := Lib.hid (Reads.new hr5 (new1 w5 (.cells #[.int .i64 f, .int .i64 a] 26))); have HN5 := Lib.hid (New.then (New.then HN4.out hn5) (new1 w5 (.cells #[.int .i64 f, .int .i64 a] 26))); obtain ⟨p0, p1⟩ := cells2 (w := w5) (x := .int .i64 f) (y := .int .i64 a) rfl; clear hr5 hn5))
          have hw1 : IntKind.i64.wrap (1 + (N : Int)) = 1 + (N : Int) := IntWalk.i64_in _ (by omega)
          have hg1 : decide (0 ≤ a) = true := by simpa using f3
          have hg2 : decide (a ≤ 1 + (N : Int)) = true := by simpa using f4
          go_quiet ((go_at_call 23; exact Calls.quiet_of_same (HCS.out _ (HT.out.new (HN5.out.drewN _)))))
          go_wp2
          go_ret
          exact ⟨rfl, HN5.out.drewN _⟩
      · clear HST
        subst r1
        subst r3
        have t4 : ¬ e0 = 0 := r2
        have t5 : (e0 == 0) = false := by simp [r2]
        have t6 : decide (e0 = 0) = false := by simp [r2]
        rcases HPT.out with ⟨f1, f2, hok, h46⟩ | ⟨f1, f2, f3, f4⟩
        · clear HPT HCS
          subst f1
          subst f2
          have hm5 : m ≤ maxLen := by unfold maxLen; omega
          have hm6 : m ≤ 1099511627776 := by omega
          obtain ⟨u, hu⟩ : ∃ u, linesOf is = u := ⟨_, rfl⟩
          have HS5 : Hid (∀ W A c, RI W A is → TW W T q → Calls Tryz.prog 13 #[.slice A m c] W fun e w' => e = .returned (.tuple #[.string ⟨u.toArray⟩, .int .i64 0]) ∧ New W w') := Lib.hid (fun W A c h1 h2 => by have h3 := show_any A m c is W hmm hm5 h1 h2.n h2.p; rw [show_ok hok h46, hu] at h3; exact h3)
          have HP5 : Hid (∀ W, TW W T q → Calls Tryz.prog 9 #[.string ⟨u.toArray⟩] W fun e w' => ∃ A c, e = .returned (.tuple #[.slice A m c, .agg #[.int .i64 0, .int .i64 0]]) ∧ RI w' A is ∧ New W w') := Lib.hid (fun W h => parse_l T q u 0 0 is m W hmm h (by rw [← hu]; exact parse_shown hok h46))
          have HM := Lib.hid hmm
          clear hu hok hmm
          go_wp2_with (first
            | (go_at_call 13; (with_reducible refine (HSL.out _ (Reads.new HA.out HNW.out) (HT.out.new HNW.out)).mono ?_); rintro e w2 ⟨rfl, hn2⟩; have HN2 := Lib.hid (New.then HNW.out hn2); clear hn2)
            | (go_at_call 9; (with_reducible refine (HPS.out _ (HT.out.new HN2.out)).mono ?_); rintro e w5 ⟨B5, c5, rfl, hr5, hn5⟩; have HR5 := Lib.hid (Reads.new hr5 (new1 w5 (.cells #[.int .i64 0, .int .i64 0] 26))); have HN5 := Lib.hid (New.then (New.then HN2.out hn5) (new1 w5 (.cells #[.int .i64 0, .int .i64 0] 26))); obtain ⟨p0, p1⟩ := cells2 (w := w5) (x := .int .i64 0) (y := .int .i64 0) rfl; clear hr5 hn5)
            | (go_at_call 13; (with_reducible refine (HS5.out _ B5 c5 HR5.out (HT.out.new HN5.out)).mono ?_); rintro e w6 ⟨rfl, hn6⟩; have HN6 := Lib.hid (New.then HN5.out hn6); have HR6 := Lib.hid (Reads.new HR5.out hn6); clear hn6 p0 p1)
            | (go_at_call 9; (with_reducible refine (HP5.out _ (HT.out.new HN6.out)).mono ?_); rintro e w7 ⟨B7, c7, rfl, hr7, hn7⟩; have nw7 := new1 w7 (.cells #[.int .i64 0, .int .i64 0] 26); have HR7 := Lib.hid (Reads.new hr7 nw7); have HR8 := Lib.hid (Reads.new HR6.out (New.then hn7 nw7)); have HN7 := Lib.hid (New.then HN6.out (New.then hn7 nw7)); obtain ⟨p0, p1⟩ := cells2 (w := w7) (x := .int .i64 0) (y := .int .i64 0) rfl; clear hr7 hn7 nw7)
            | (go_at_call 22; (with_reducible refine (sameIns_any B5 B7 m c5 c7 is _ HM.out hm6 HR8.out HR7.out).mono ?_); rintro e w8 ⟨rfl, hn8⟩; have HN8 := Lib.hid (New.then HN7.out hn8); clear hn8))
          go_ret
          exact ⟨rfl, HN8.out⟩
        · clear HPT
          subst f2
          obtain rfl : m = 0 := hmm
          have u1 : ¬ f = 0 := f1
          have u2 : (f == 0) = false := by simp [f1]
          have u3 : decide (f = 0) = false := by simp [f1]
          go_wp2_with (first
            | (go_at_call 13; (with_reducible refine (HSL.out _ (Reads.new HA.out HNW.out) (HT.out.new HNW.out)).mono ?_); rintro e w2 ⟨rfl, hn2⟩; have HN2 := Lib.hid (New.then HNW.out hn2); clear hn2)
            | (go_at_call 9; (with_reducible refine (HPS.out _ (HT.out.new HN2.out)).mono ?_); rintro e w5 ⟨B5, c5, rfl, hr5, hn5⟩; have HR5 := Lib.hid (Reads.new hr5 (new1 w5 (.cells #[.int .i64 f, .int .i64 a] 26))); have HN5 := Lib.hid (New.then (New.then HN2.out hn5) (new1 w5 (.cells #[.int .i64 f, .int .i64 a] 26))); obtain ⟨p0, p1⟩ := cells2 (w := w5) (x := .int .i64 f) (y := .int .i64 a) rfl; clear hr5 hn5))
          have hw1 : IntKind.i64.wrap (1 + (N : Int)) = 1 + (N : Int) := IntWalk.i64_in _ (by omega)
          have hg1 : decide (0 ≤ a) = true := by simpa using f3
          have hg2 : decide (a ≤ 1 + (N : Int)) = true := by simpa using f4
          go_quiet ((go_at_call 23; exact Calls.quiet_of_same (HCS.out _ (HT.out.new (HN5.out.drewN _)))))
          go_wp2
          go_ret
          exact ⟨rfl, HN5.out.drewN _⟩
end Go.Proofs.YtcebfihjcglnoaaGreatDoor.txt
