/-
  The document's Parse: bytes, numbers, registers, labels.
-/
import Derived.Test.YtddojdgnakajmaaGreatDoorTB
import Derived.Test.YtddojdgnakajmaaGreatDoorTZD
namespace Go.Proofs.YtddojdgnakajmaaGreatDoor.txt
open Go.RowKit Go.Proofs.YtddojdgnakajmaaGreatDoor.mem Go.Proofs.YtddojdgnakajmaaGreatDoor.kit Go.Proofs.YtddojdgnakajmaaGreatDoor.ins
set_option linter.unusedVariables false
set_option linter.unusedSimpArgs false

/-! ### numbers written out -/
theorem dec_back : ∀ (n : Nat) (t : Bs), t.length < n → t ≠ [] → (t = [48] ∨ t.head? ≠ some 48) → t.all dig = true → t = Lib.decDigits (valOf t)
  | 0, t, h, _, _, _ => by omega
  | n + 1, t, h, h0, h1, hd => by
    rcases List.eq_nil_or_concat t with e | ⟨u, c, e⟩
    · exact absurd e h0
    rw [List.concat_eq_append] at e
    subst e
    rw [List.all_append, Bool.and_eq_true] at hd
    obtain ⟨hu, hc⟩ := hd
    simp only [List.all_cons, List.all_nil, Bool.and_true, dig, Bool.and_eq_true, decide_eq_true_eq] at hc
    have hcc : UInt8.ofNat (48 + (c.toNat - 48)) = c := by
      rw [show 48 + (c.toNat - 48) = c.toNat by omega]
      exact UInt8.ofNat_toNat
    rw [val_end]
    by_cases hn : u = []
    · subst hn
      have e : 10 * valOf [] + (c.toNat - 48) = c.toNat - 48 := by simp [valOf]
      rw [e, Lib.decDigits, dif_pos (by omega), hcc]
      rfl
    · have hh : u.head? ≠ some 48 := by
        rcases h1 with e | e
        · have := congrArg List.length e
          simp at this
          exact absurd this hn
        · rwa [head_app hn] at e
      have ih := dec_back n u (by simp at h; omega) hn (.inr hh) hu
      have hpos : 0 < valOf u := by
        rcases Nat.eq_zero_or_pos (valOf u) with e | e
        · rw [e] at ih
          exfalso
          apply hh
          rw [ih, Lib.decDigits, dif_pos (by omega)]
          rfl
        · exact e
      rw [Lib.decDigits, dif_neg (by omega)]
      rw [show (10 * valOf u + (c.toNat - 48)) / 10 = valOf u by omega, show (10 * valOf u + (c.toNat - 48)) % 10 = c.toNat - 48 by omega, ← ih, hcc]
theorem num_back {t : Bs} {n : Int} (h : numOf t = some n) : 0 ≤ n ∧ t = Lib.itoa n := by
  unfold numOf at h
  split at h
  · rename_i hc
    obtain ⟨h1, h2, h3, h4⟩ := hc
    cases h
    refine ⟨Int.natCast_nonneg _, ?_⟩
    rw [itoa_pos (Int.natCast_nonneg _), Int.toNat_natCast]
    exact dec_back _ t (Nat.lt_succ_self _) (by intro e; rw [e] at h1; simp at h1) h3 h4
  · cases h
theorem reg_back {t : Bs} {n : Int} (h : regOf t = some n) : 0 ≤ n ∧ n ≤ 10 ∧ t = regB n := by
  unfold regOf at h
  split at h
  · rename_i hr
    obtain ⟨m, h1, h2⟩ := Option.bind_eq_some_iff.1 h
    split at h2
    · rename_i hlt
      cases h2
      obtain ⟨h3, h4⟩ := num_back h1
      refine ⟨h3, by omega, ?_⟩
      cases t with
      | nil => simp [hasR] at hr
      | cons c r =>
        simp only [hasR, List.head?_cons, Option.some.injEq, decide_eq_true_eq] at hr
        rw [hr]
        simp only [List.tail_cons] at h4
        rw [h4]
        rfl
    · cases h2
  · cases h
theorem val_le : ∀ (k : Nat) (t : Bs), t.length ≤ k → t.all dig = true → valOf t < 10 ^ k
  | 0, t, h, _ => by
    have : t = [] := List.eq_nil_of_length_eq_zero (by omega)
    subst this
    simp [valOf]
  | k + 1, t, h, hd => by
    rcases List.eq_nil_or_concat t with e | ⟨u, c, e⟩
    · subst e
      have : 0 < 10 ^ (k + 1) := Nat.pow_pos (by decide)
      simpa [valOf] using this
    · rw [List.concat_eq_append] at e
      subst e
      rw [List.all_append, Bool.and_eq_true] at hd
      have hc := hd.2
      simp only [List.all_cons, List.all_nil, Bool.and_true, dig, Bool.and_eq_true, decide_eq_true_eq] at hc
      have ih := val_le k u (by simp at h; omega) hd.1
      rw [val_end, Nat.pow_succ]
      omega

/-! ### bytes -/
theorem rwordy_any (c : UInt8) (w : World) : Calls Tryz.prog 106 #[.int .u8 (c.toNat : Int)] w fun e w' => e = .returned (.bool (wby c)) ∧ w = w' := by
  have hq : ((c.toNat : Int) == 95) = decide (c.toNat = 95) := by rw [Bool.eq_iff_iff]; simp; omega
  by_cases h0 : 97 ≤ c.toNat
  · have t0 : (97 : Int) ≤ (c.toNat : Int) := by omega
    by_cases h1 : c.toNat ≤ 122
    · have t1 : (c.toNat : Int) ≤ 122 := by omega
      have H : Hid (wby c = true) := Lib.hid (by simp [wby, ltr, h0, h1])
      go_enter Tryz.func106, Tryz.ntmps106
      go_wp2
      go_ret
      exact ⟨ret_bool H.out.symm, rfl⟩
    · have t1 : ¬ (c.toNat : Int) ≤ 122 := by omega
      have t2 : (48 : Int) ≤ (c.toNat : Int) := by omega
      have t3 : ¬ (c.toNat : Int) ≤ 57 := by omega
      have t4 : ((c.toNat : Int) == 95) = false := by simp; omega
      have H : Hid (wby c = false) := Lib.hid (by
        have e : ¬ c.toNat ≤ 57 := by omega
        have e2 : ¬ c.toNat = 95 := by omega
        simp [wby, ltr, dig, h1, e, e2])
      clear hq
      go_enter Tryz.func106, Tryz.ntmps106
      go_wp2
      go_ret
      exact ⟨ret_bool H.out.symm, rfl⟩
  · have t0 : ¬ (97 : Int) ≤ (c.toNat : Int) := by omega
    by_cases h2 : 48 ≤ c.toNat
    · have t2 : (48 : Int) ≤ (c.toNat : Int) := by omega
      by_cases h3 : c.toNat ≤ 57
      · have t3 : (c.toNat : Int) ≤ 57 := by omega
        have H : Hid (wby c = true) := Lib.hid (by simp [wby, dig, h2, h3])
        clear hq
        go_enter Tryz.func106, Tryz.ntmps106
        go_wp2
        go_ret
        exact ⟨ret_bool H.out.symm, rfl⟩
      · have t3 : ¬ (c.toNat : Int) ≤ 57 := by omega
        have H : Hid (wby c = ((c.toNat : Int) == 95)) := Lib.hid (by rw [hq]; simp [wby, ltr, dig, h0, h3])
        clear hq
        go_enter Tryz.func106, Tryz.ntmps106
        go_wp2
        go_ret
        exact ⟨ret_bool H.out.symm, rfl⟩
    · have t2 : ¬ (48 : Int) ≤ (c.toNat : Int) := by omega
      have t4 : ((c.toNat : Int) == 95) = false := by simp; omega
      have H : Hid (wby c = false) := Lib.hid (by
        have e2 : ¬ c.toNat = 95 := by omega
        simp [wby, ltr, dig, h0, h2, e2])
      clear hq
      go_enter Tryz.func106, Tryz.ntmps106
      go_wp2
      go_ret
      exact ⟨ret_bool H.out.symm, rfl⟩
theorem beq_dec (c : UInt8) (n : Nat) : ((c.toNat : Int) == (n : Int)) = decide (c.toNat = n) := by rw [Bool.eq_iff_iff]; simp; omega
theorem rsign_any (c : UInt8) (w : World) : Calls Tryz.prog 107 #[.int .u8 (c.toNat : Int)] w fun e w' => e = .returned (.bool (sgn c)) ∧ w = w' := by
  have b0 : ((c.toNat : Int) == 44) = decide (c.toNat = 44) := beq_dec c 44
  have b1 : ((c.toNat : Int) == 91) = decide (c.toNat = 91) := beq_dec c 91
  have b2 : ((c.toNat : Int) == 93) = decide (c.toNat = 93) := beq_dec c 93
  have b3 : ((c.toNat : Int) == 43) = decide (c.toNat = 43) := beq_dec c 43
  have b4 : ((c.toNat : Int) == 45) = decide (c.toNat = 45) := beq_dec c 45
  have b5 : ((c.toNat : Int) == 58) = decide (c.toNat = 58) := beq_dec c 58
  have H : Hid (sgn c = (decide (c.toNat = 44) || decide (c.toNat = 91) || decide (c.toNat = 93) || decide (c.toNat = 43) || decide (c.toNat = 45) || decide (c.toNat = 58))) := Lib.hid rfl
  generalize decide (c.toNat = 44) = d0 at *
  generalize decide (c.toNat = 91) = d1 at *
  generalize decide (c.toNat = 93) = d2 at *
  generalize decide (c.toNat = 43) = d3 at *
  generalize decide (c.toNat = 45) = d4 at *
  generalize decide (c.toNat = 58) = d5 at *
  cases d0 <;> cases d1 <;> cases d2 <;> cases d3 <;> cases d4
  all_goals
    go_enter Tryz.func107, Tryz.ntmps107
    go_wp2
    go_ret
    exact ⟨ret_bool (by rw [H.out]; simp [b5]), rfl⟩

/-! ### labels -/
theorem rlabel_any (t : Bs) (w : World) (ht : t.length ≤ 1000000000) : Calls Tryz.prog 50 #[.string ⟨t.toArray⟩] w fun e w' => e = .returned (.bool (isLab t)) ∧ w = w' := by
  cases t with
  | nil =>
    go_enter Tryz.func50, Tryz.ntmps50
    go_wp2
    go_ret
    exact ⟨rfl, rfl⟩
  | cons c r =>
    have hs : isLab (c :: r) = (decide (r.length + 1 ≤ 30) && (decide (97 ≤ c.toNat) && decide (c.toNat ≤ 122))) := rfl
    have t0 : (1 : Int) ≤ (r.length : Int) + 1 := by omega
    by_cases h0 : r.length + 1 ≤ 30
    · have t1 : (r.length : Int) + 1 ≤ 30 := by omega
      rw [decide_eq_true h0, Bool.true_and] at hs
      by_cases h1 : 97 ≤ c.toNat
      · have t3 : (97 : Int) ≤ (c.toNat : Int) := by omega
        by_cases h2 : c.toNat ≤ 122
        · have t4 : (c.toNat : Int) ≤ 122 := by omega
          have H2 : Hid (isLab (c :: r) = true) := Lib.hid (by rw [hs]; simp [h1, h2])
          clear hs
          go_enter Tryz.func50, Tryz.ntmps50
          go_wp2
          go_ret
          exact ⟨ret_bool ((decide_eq_true (show (c.toNat : Int) ≤ 122 by omega)).trans H2.out.symm), rfl⟩
        · have t4 : ¬ (c.toNat : Int) ≤ 122 := by omega
          have H2 : Hid (isLab (c :: r) = false) := Lib.hid (by rw [hs]; simp [h2])
          clear hs
          go_enter Tryz.func50, Tryz.ntmps50
          go_wp2
          go_ret
          exact ⟨ret_bool ((decide_eq_false (show ¬ (c.toNat : Int) ≤ 122 by omega)).trans H2.out.symm), rfl⟩
      · have t3 : ¬ (97 : Int) ≤ (c.toNat : Int) := by omega
        have H2 : Hid (isLab (c :: r) = false) := Lib.hid (by rw [hs]; simp [h1])
        clear hs
        go_enter Tryz.func50, Tryz.ntmps50
        go_wp2
        go_ret
        exact ⟨ret_bool H2.out.symm, rfl⟩
    · have t1 : ¬ (r.length : Int) + 1 ≤ 30 := by omega
      have H : Hid (isLab (c :: r) = false) := Lib.hid (by rw [hs, decide_eq_false h0]; rfl)
      clear hs
      go_enter Tryz.func50, Tryz.ntmps50
      go_wp2
      go_ret
      exact ⟨ret_bool H.out.symm, rfl⟩
end Go.Proofs.YtddojdgnakajmaaGreatDoor.txt
